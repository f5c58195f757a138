/- Texts of one layer, one behind the other. -/
import Derived.Test.YtkpnkknolobioaaG5
import Derived.Test.YtkpnkknolobioaaG19
import Derived.Deep.RegionWith
import Derived.Test.YtkpnkknolobioaaG18
import Derived.Test.YtkpnkknolobioaaG8
import Derived.Test.YtkpnkknolobioaaG12
import Derived.Test.YtkpnkknolobioaaG1
import Derived.Test.YtkpnkknolobioaaG2
/- slices.Clone of commits. -/
namespace Go.Proofs.Ytkpnkknolobioaa
open Go.RowKit
set_option linter.unusedVariables false

theorem cloneC_any (vl : Value) (r : List Cw) (w : World) (h : RowC w vl r) (hone : ∀ c ∈ r, c.v.oneCell' = true) (hl : r.length ≤ 1048576) :
    Calls Try.prog 76 #[vl] w fun e w' => ∃ v, e = .returned v ∧ OwnR 32 w.heap.size w' v r ∧ Below w.heap.size w w' := by
  have q : ∀ (w : World) (a : Option Addr) (n c n' c' : Nat), (binOp .eql 22 (.slice a n c) (.slice none n' c')).run Try.prog w = .ok (.bool a.isNone) w := fun w a n c n' c' => Lib.run_eql_slice_nil w _ _ a n c n' c' Try.underlying22
  by_cases hn : vl = .slice none 0 0
  · subst hn
    have : r = [] := by
      rcases h with ⟨_, h⟩ | ⟨ad, cap, h, _⟩
      · exact h
      · simp at h
    subst this
    clear h hl
    go_enter Try.func76, Try.ntmps76
    go_wp2
    go_ret
    exact ⟨_, rfl, OwnR.nil _ _ _, Below.refl _ _⟩
  · obtain ⟨ad, cap, rfl⟩ : ∃ ad cap, vl = .slice (some ad) r.length cap := by
      rcases h with ⟨h, _⟩ | ⟨ad, cap, h, _⟩
      · exact absurd h hn
      · exact ⟨ad, cap, h⟩
    clear hn
    obtain ⟨w1, hw1, sz1, bel1, own1⟩ := coms_step 32 w #[] 0 [] rfl rfl (by simp [maxLen])
    have h1 := h.below bel1
    go_enter Try.func76, Try.ntmps76
    go_wp2_with (at_builtin; refine wpList_append_coms rfl (.tmp 5) (.tmp 6) 22 rfl 32 w.heap.size Try.underlying22 Try.info32 _ [] rfl own1 _ r rfl h1 hone (by simp; omega) (by omega) ?_)
    intro v2 w2 own2 bel2 _
    go_wp2
    go_ret
    exact ⟨_, rfl, by simpa using own2, bel1.trans bel2⟩

end Go.Proofs.Ytkpnkknolobioaa

/- The program's copied and Scan (layer 19). -/
namespace Go.Proofs.Ytkpnkknolobioaa
open Go.RowKit
set_option linter.unusedVariables false

/-- A block that is written over. -/
theorem keepT_blk {w w' : World} {R : Nat} {cs : Array Value} {t : TypeId} {fr : Nat × Nat} (hR : w.heap[R]? = some (.cells cs t fr)) (hg : w.grownBy w' (some R)) : KeepT t w w' := by
  intro g cs' t' fr' hc ht
  refine (hg.block g (blk_lt hc) fun e1 => ?_).trans hc
  have e2 := Option.some.inj e1
  subst e2
  rw [hR] at hc
  simp at hc
  exact ht hc.2.1.symm

/-- In the midst of the copies: the section in its block, the result's block. -/
structure Cpd (w wr : World) (e f : Int) (g m cap : Nat) (rest : List Cw) (k : Nat) (rk : List Cw) : Prop where
  fs : Fst w wr g m cap rest k rk
  sb : wr.heap[w.heap.size]? = some (.cells #[.int .i64 e, .int .i64 f, .slice (some ⟨g, 0, none⟩) m cap] 24 (0, 0))
  rb : wr.heap[w.heap.size + 1]? = some (.cells #[.int .i64 0, .int .i64 0, .slice none 0 0] 24 (0, 0))
  gt : w.heap.size + 1 < g

set_option maxRecDepth 20000 in
set_option maxHeartbeats 4000000 in
theorem pocopy_any (e f : Int) (v : Value) (rs : List Cw) (w : World) (h : IsC w v rs) (hf : FitC rs) (h0 : 0 < rs.length) (hl : rs.length ≤ 1048576) :
    Calls Try.prog 43 #[.agg #[.int .i64 e, .int .i64 f, v]] w fun E w' => ∃ v' cs, E = .returned (.agg #[.int .i64 e, .int .i64 f, v']) ∧ Hid (ShS w.heap.size w' v' cs ∧ cvs cs = cvs rs ∧ Below w.heap.size w w') ∧ ∃ a n k, v' = .slice a n k := by
  obtain ⟨w1, hw1, sz1, bel1, hB⟩ := blk_step w #[.int .i64 e, .int .i64 f, v] 24
  obtain ⟨w2, hw2, sz2, bel2, hR⟩ := blk_step w1 #[.int .i64 0, .int .i64 0, .slice none 0 0] 24
  rw [sz1] at hR
  have hB2 := (bel2.block w.heap.size (by omega)).trans hB
  have bel02 : Below w.heap.size w w2 := bel1.trans (bel2.mono (by omega))
  obtain ⟨m, hm⟩ : ∃ m, rs.length = m := ⟨_, rfl⟩
  have h2 := h.below bel02
  have HCL : Hid (Calls Try.prog 76 #[v] w2 fun E w3 => ∃ g cap, E = .returned (.slice (some ⟨g, 0, none⟩) m cap) ∧ (∃ X, w3.setCell ⟨w.heap.size, 2, none⟩ (.slice (some ⟨g, 0, none⟩) m cap) = X ∧ Hid (Cpd w X e f g m cap rs 0 rs)) ∧ m ≤ cap ∧ w3.cell? ⟨w.heap.size, 2, none⟩ = some v ∧ w3.frozen? ⟨w.heap.size, 2, none⟩ = false) := hide (by
    refine (cloneC_any v rs w2 h2.1 (fun c hc => (h2.2 c hc).1.one) hl).mono ?_
    rintro E w3 ⟨v3, rfl, own, bel⟩
    have hB3 := (bel.block w.heap.size (by omega)).trans hB2
    have hR3 := (bel.block (w.heap.size + 1) (by omega)).trans hR
    rcases own.2 with ⟨_, hz⟩ | ⟨g, cap, cur, hvv, hgb, _, hc, _⟩
    · omega
    · rw [hm] at hvv
      obtain ⟨X, hX, bX, gX, q2, q3⟩ := put_one hB3 (.slice (some ⟨g, 0, none⟩) m cap)
      have hg : w2.heap.size ≤ g := (World.ownsRow.lt own g (by rw [hvv]; rfl)).1
      have oX : OwnR 32 w.heap.size X v3 rs := row_agree (row_rebase own (by omega)) fun i hi => by
        have h1 := World.ownsRow.lt own i hi
        exact gX.block i h1.2 (by simp; omega)
      rw [hvv] at oX
      refine ⟨g, cap, by rw [hvv], ⟨X, hX, hide ⟨⟨oX, hm, rfl, fun c hc => by simp at hc, rfl, fun i j c d _ hc => by simp at hc, below_put (bel02.trans (bel.mono bel02.size)) gX (Nat.le_refl _) (by have := bel.size; omega)⟩, bX, (gX.block _ (blk_lt hR3) (by simp)).trans hR3, by omega⟩⟩, by omega, q2, q3⟩)
  have HOPS : Hid (∀ W, Below w.heap.size w W → ∀ c ∈ rs, IsO W c.v c.l ∧ c.l.length * 40 ≤ 140737488351232) := hide fun W hb c hc => ⟨((h.2 c hc).1).below hb, (hf c hc).2⟩
  have FIN : Hid (∀ W g cap rk, Fst w W g m cap rs m rk → ShS w.heap.size W (.slice (some ⟨g, 0, none⟩) m cap) rk ∧ cvs rk = cvs rs) := hide fun W g cap rk hF => by
    have ht : rk.take m = rk := List.take_of_length_le (by rw [hF.len]; omega)
    have h1 := hF.cop
    have h2 := hF.ap
    rw [ht] at h1 h2
    have q : ∀ c ∈ rk, ∃ d ∈ rs, c.c = d.c := fun c hc => by
      have : c.c ∈ cvs rk := by unfold cvs; exact List.mem_map.2 ⟨c, hc, rfl⟩
      rw [hF.is] at this
      unfold cvs at this
      obtain ⟨d, hd, e⟩ := List.mem_map.1 this
      exact ⟨d, hd, e.symm⟩
    refine ⟨⟨hF.row, h1, fun c hc => ?_, h2, fun c hc => ?_⟩, hF.is⟩
    · obtain ⟨d, hd, e⟩ := q c hc
      have e1 : c.e = d.e := congrArg Cm.Cv.e e
      have e2 : c.n = d.n := congrArg Cm.Cv.n e
      rw [e1, e2]
      exact (h.2 d hd).2
    · obtain ⟨d, hd, e⟩ := q c hc
      have e3 : c.l = d.l := congrArg Cm.Cv.l e
      have := hf d hd
      rw [← e3] at this
      exact this
  have HRL := hide hm
  have c2 := blk_cell hB2 2 rfl
  simp only [List.getElem_toArray, List.getElem_cons_zero, List.getElem_cons_succ] at c2
  obtain ⟨ao, ca, hv, _, _⟩ := h.1.shape
  rw [hm] at hv
  rw [hv] at hw1 HCL c2
  subst hv
  have hm0 : 0 < m := by omega
  have hm1 : m ≤ 1048576 := by omega
  clear h hf h2 hB hB2 hR bel1 bel2 bel02 h0 hl hm
  go_enter Try.func43, Try.ntmps43
  go_wp2_with fail
  refine HCL.out.mono ?_
  rintro E w3 ⟨g, cap, rfl, ⟨X, hX, C0⟩, hcp, q2, q3⟩
  have x2 : X.cell? ⟨w.heap.size, 2, none⟩ = some (.slice (some ⟨g, 0, none⟩) m cap) := blk_cell C0.out.sb 2 rfl
  clear HCL
  go_wp2
  go_loopw [12] (fun iv wr => ∃ (k : Nat) (rk : List Cw), k ≤ m ∧ iv = .int .i64 k ∧ Hid (Cpd w wr e f g m cap rs k rk)) (fun iv _ => m - (intOf iv).toNat)
  case atStart => exact ⟨0, rs, by omega, rfl, C0⟩
  case round =>
    clear C0 x2 q2 q3
    obtain ⟨k, rk, hk, rfl, FSX⟩ := hrel
    by_cases hlt : k < m
    · obtain ⟨c, hc⟩ : ∃ c, rs[k]? = some c := ⟨rs[k]'(by rw [HRL.out]; omega), by rw [List.getElem?_eq_getElem]⟩
      have hcm := List.mem_of_getElem? hc
      have hrk : rk[k]? = some c := by
        have e1 : (rk.drop k)[0]? = (rs.drop k)[0]? := by rw [FSX.out.fs.left]
        rw [List.getElem?_drop, List.getElem?_drop] at e1
        simpa using e1.trans (by simpa using hc)
      obtain ⟨⟨d0, d1, d2⟩, _⟩ := own_atC FSX.out.fs.row FSX.out.fs.len k c hrk
      obtain ⟨wa, hwa, hwa2, sza, bela, bA, x0, x1, x2⟩ := new_step wr 32 (.int .i64 0) (.int .i64 0) (.slice none 0 0) (.int .i64 c.e) (.int .i64 c.n) c.v
      obtain ⟨hio, hlo⟩ := HOPS.out wr FSX.out.fs.bel c hcm
      have s2 : wa.cell? ⟨w.heap.size, 2, none⟩ = some (.slice (some ⟨g, 0, none⟩) m cap) := blk_cell ((bela.block _ (blk_lt FSX.out.sb)).trans FSX.out.sb) 2 rfl
      have CP : Hid (Calls Try.prog 77 #[.agg #[.int .i64 c.e, .int .i64 c.n, c.v]] wa.drew fun E w2 => ∃ v2, E = .returned (.agg #[.int .i64 c.e, .int .i64 c.n, v2]) ∧ (∃ a n z, v2 = .slice a n z) ∧ (∃ W, ((w2.setCell ⟨g, k * 3, none⟩ (.int .i64 c.e)).setCell ⟨g, k * 3 + 1, none⟩ (.int .i64 c.n)).setCell ⟨g, k * 3 + 2, none⟩ v2 = W ∧ Hid (∃ rk', Cpd w W e f g m cap rs (k + 1) rk')) ∧ (w2.cell? ⟨g, k * 3, none⟩ = some (.int .i64 c.e) ∧ w2.cell? ⟨g, k * 3 + 1, none⟩ = some (.int .i64 c.n) ∧ w2.cell? ⟨g, k * 3 + 2, none⟩ = some c.v) ∧ (w2.frozen? ⟨g, k * 3, none⟩ = false ∧ w2.frozen? ⟨g, k * 3 + 1, none⟩ = false ∧ w2.frozen? ⟨g, k * 3 + 2, none⟩ = false) ∧ w2.cell? ⟨w.heap.size, 2, none⟩ = some (.slice (some ⟨g, 0, none⟩) m cap)) := hide (by
        have beld : Below wr.heap.size wr wa.drew := bela.drew
        refine (ccopy_any c.e c.n c.v c.l wa.drew (hio.below beld) hlo).mono ?_
        rintro E w2 ⟨v2, rfl, own2, bel2⟩
        have b2 : Below wr.heap.size wr w2 := beld.trans (bel2.mono beld.size)
        have hrow2 : OwnR 32 w.heap.size w2 (.slice (some ⟨g, 0, none⟩) m cap) rk := FSX.out.fs.row.below b2
        obtain ⟨W, hW, oW, gW⟩ := own_putC hrow2 FSX.out.fs.len k hlt ⟨c.e, c.n, v2, c.l⟩
        obtain ⟨y, z⟩ := own_atC hrow2 FSX.out.fs.len k c hrk
        have sb2 := (b2.block _ (blk_lt FSX.out.sb)).trans FSX.out.sb
        have rb2 := (b2.block _ (blk_lt FSX.out.rb)).trans FSX.out.rb
        have hgt := FSX.out.gt
        refine ⟨v2, rfl, (by obtain ⟨xa, xc, hx, _⟩ := own2.is.shape; exact ⟨_, _, _, hx⟩), ⟨W, hW, hide ⟨_, FSX.out.fs.next hc hlt (own2.rebase beld.size) b2 oW gW, (gW.block _ (blk_lt sb2) (by simp; omega)).trans sb2, (gW.block _ (blk_lt rb2) (by simp; omega)).trans rb2, hgt⟩⟩, y, z, blk_cell sb2 2 rfl⟩)
      obtain ⟨cA, cc, hcv, _, _⟩ := hio.shape
      rw [hcv] at d2 hwa hwa2 x2 CP
      have hlt' : (k : Int) < m := by omega
      clear FSX hio hlo hrk bela bA hc hcm
      go_wp2_with fail
      go_region_with (go_at_call 77; refine CP.out.mono ?_; rintro E w2 ⟨v2, rfl, ⟨a2, n2, z2, rfl⟩, ⟨W, hW, F2⟩, ⟨y0, y1, y2⟩, ⟨f0, f1, f2⟩, t2⟩)
      all_goals
        clear CP
        go_wp2
        go_roundw
        case rel =>
          obtain ⟨rk2, G2⟩ := F2.out
          exact ⟨k + 1, rk2, by omega, by go_num, hide G2⟩
        case measure => simp [intOf]; omega
    · obtain rfl : k = m := by omega
      have hlt' : ¬ (k : Int) < k := by omega
      obtain ⟨t0, t1, t2⟩ : wr.cell? ⟨w.heap.size, 0, none⟩ = some (.int .i64 e) ∧ wr.cell? ⟨w.heap.size, 1, none⟩ = some (.int .i64 f) ∧ wr.cell? ⟨w.heap.size, 2, none⟩ = some (.slice (some ⟨g, 0, none⟩) k cap) := ⟨blk_cell FSX.out.sb 0 rfl, blk_cell FSX.out.sb 1 rfl, blk_cell FSX.out.sb 2 rfl⟩
      obtain ⟨Z, hZ, bZ, gZ, ⟨a0, a1, a2⟩, ⟨f0, f1, f2⟩, z0, z1, z2⟩ := res_step FSX.out.rb (.int .i64 e) (.int .i64 f) (.slice (some ⟨g, 0, none⟩) k cap)
      have G : Hid (ShS w.heap.size Z (.slice (some ⟨g, 0, none⟩) k cap) rk ∧ cvs rk = cvs rs ∧ Below w.heap.size w Z) := hide (by
        obtain ⟨s1, s2⟩ := FIN.out _ g cap rk FSX.out.fs
        have kp : KeepT 24 wr Z := keepT_blk FSX.out.rb gZ
        exact ⟨s1.keepT kp (by decide) (by decide), s2, below_put FSX.out.fs.bel gZ (by omega) FSX.out.fs.bel.size⟩)
      clear FSX bZ gZ
      go_wp2
      refine bodyPost_ret (v := .agg #[.int .i64 e, .int .i64 f, .slice (some ⟨g, 0, none⟩) k cap]) (by simp [results, Try.results43, go_sem, z0, z1, z2]) rfl ?_
      exact ⟨_, rfl, ⟨rk, G⟩, _, _, _, rfl⟩

set_option maxRecDepth 20000 in
set_option maxHeartbeats 8000000 in
theorem poscan_any (vb : Value) (bs : List Int) (w : World) (hb : Is .u8 w vb bs) (hl : bs.length ≤ 1000000000) : Calls Try.prog 17 #[vb] w (ScO w bs) := by
  have HB := hide hb
  obtain ⟨ao, cap, hvb, _, _⟩ := hb.shape
  rw [hvb] at HB
  subst hvb
  clear hb
  go_enter Try.func17, Try.ntmps17
  go_wp2
  go_loopw [4, 5, 6] (fun ov ev av wr => ∃ (a : Nat) (ep : Int) (oa : Option Addr) (ok : Nat) (l : List Sw), a ≤ bs.length ∧ av = .int .i64 a ∧ ev = .int .i64 ep ∧ ov = .slice oa l.length ok ∧ Hid (MiS w wr bs a (.slice oa l.length ok) l ∧ Orp.lstS 0 (sws l) = ep)) (fun _ _ av _ => bs.length - (intOf av).toNat)
  case atStart => exact ⟨0, 0, none, 0, [], by omega, rfl, rfl, rfl, hide ⟨⟨OwnSe.nil _ _, fun x hx => by simp at hx, trivial, by simp [sws, Orp.secs], by simp [sws, Orp.secs], Below.refl _ _⟩, rfl⟩⟩
  case round =>
    obtain ⟨a, ep, oa, ok, l, hle, rfl, rfl, rfl, M⟩ := hrel
    obtain ⟨vs, hsl, isl⟩ := (HB.out.below M.out.1.bel).slice_l Try.elemB Try.sizeE a hle
    have FR := hide (poread_any vs (bs.drop a) wr isl (by rw [List.length_drop]; omega))
    clear isl
    go_wp2_with fail
    refine FR.out.mono ?_
    rintro E w9 ⟨x, n, g, rfl, H9⟩
    obtain ⟨xa, xk, hxv, _, _⟩ := H9.out.1.c.row.shape
    have bel9 := H9.out.2.2.2.2
    obtain ⟨wb, hwb, hwb', szb, belb, bb, k0, k1, k2⟩ := new_step w9 24 (.int .i64 0) (.int .i64 0) (.slice none 0 0) (.int .i64 x.e) (.int .i64 x.f) x.v
    have belrb : Below wr.heap.size wr wb := bel9.trans (belb.mono bel9.size)
    have HXV := hide hxv
    have BRB := hide belrb
    have BWB : Hid (Below w.heap.size w wb) := hide (M.out.1.bel.trans (belrb.mono M.out.1.bel.size))
    have SX := hide (H9.out.1.below belb)
    have OWNB := hide (M.out.1.own.below belrb)
    have BLK := hide bb
    rw [hxv] at hwb hwb' k2 ⊢
    clear FR hsl bb belb bel9 belrb
    cases g with
    | false =>
      have FIN : Hid (Orp.Sn 0 bs (sws l)) := hide (M.out.1.no (by
        rcases H9.out.2.2.2.1 with ⟨h1, _⟩ | ⟨_, h⟩
        · simp at h1
        · exact h))
      have HAT := hide M.out.1.at'
      have HFT := hide M.out.1.fit
      clear M H9 SX BRB BLK
      go_wp2
      go_ret2
      exact ⟨_, l, a, rfl, hide ⟨OWNB.out, HFT.out, HAT.out, FIN.out, BWB.out⟩⟩
    | true =>
      by_cases hle2 : x.e ≤ ep
      · have FIN : Hid (Orp.Sn 0 bs (sws l)) := hide (M.out.1.low H9.out.2.2.2.1 (by rw [M.out.2]; exact hle2))
        have HAT := hide M.out.1.at'
        have HFT := hide M.out.1.fit
        clear M H9 SX BRB BLK
        go_wp2
        go_ret2
        exact ⟨_, l, a, rfl, hide ⟨OWNB.out, HFT.out, HAT.out, FIN.out, BWB.out⟩⟩
      · have HCZ : Hid (Orp.chk x.s = 0 ∧ 1 ≤ n ∧ a + n ≤ bs.length) := hide (by
          rcases H9.out.2.2.2.1 with ⟨_, h1, h2, h3⟩ | ⟨h1, _⟩
          · have h4 := Orp.sec_pos x.s
            have h5 := h2.length_le
            rw [List.length_drop] at h5
            exact ⟨h1, by omega, by omega⟩
          · simp at h1)
        have HLN : Hid (1 ≤ x.rs.length ∧ x.rs.length ≤ 1048576) := hide (by
          obtain ⟨_, _, _, _, h5, h6, _⟩ := Orp.chk_zero HCZ.out.1
          rw [show x.s.cs = cvs x.rs from rfl, cvs_many] at h5 h6
          exact ⟨h5, h6⟩)
        have CP := hide (pocopy_any x.e x.f x.v x.rs wb SX.out.isC SX.out.f (by have := HLN.out; omega) HLN.out.2)
        rw [hxv] at CP
        obtain ⟨_, hn1, hn2⟩ := HCZ.out
        have LST : Hid (∀ cs v, Orp.lstS 0 (sws (l ++ [⟨x.e, x.f, v, cs⟩])) = x.e) := hide fun cs v => by
          rw [sws_snoc, Orp.lst_snoc]
          rfl
        clear hxv
        go_wp2_with fail
        refine CP.out.mono ?_
        rintro E wc ⟨vc, cs, rfl, HC, ca, cn, ck, hvc⟩
        have belc : Below wr.heap.size wr wc := BRB.out.trans (HC.out.2.2.mono BRB.out.size)
        obtain ⟨V, hV, belV, szV, hpu⟩ := M.out.1.own.pushG M.out.1.bel.size belc ⟨x.e, x.f, vc, cs⟩ (HC.out.1.rebase (b' := wr.heap.size) BRB.out.size) ⟨H9.out.2.1, H9.out.2.2.1⟩ (by have := M.out.1.len; omega)
        have hBW : (wc.heap[w9.heap.size]?) = some (.cells #[.int .i64 x.e, .int .i64 x.f, x.v] 24 (0, 0)) := (HC.out.2.2.block _ (blk_lt BLK.out)).trans BLK.out
        have XX : Hid (∀ ty, ∃ v2 w2, (Builtin.append_ #[41, 41] ty #[.slice oa l.length ok, .slice (some ⟨wc.heap.size, 0, none⟩) 1 1]).run Try.prog V = .ok v2 w2 ∧ (Hid (MiS w w2 bs (a + n) v2 (l ++ [⟨x.e, x.f, vc, cs⟩])) ∧ w2.cell? ⟨w9.heap.size, 0, none⟩ = some (.int .i64 x.e) ∧ ∃ a k, v2 = .slice a (l ++ [(⟨x.e, x.f, vc, cs⟩ : Sw)]).length k)) := hide fun ty => by
          obtain ⟨v2, w2, h1, h2, h3, h4⟩ := hpu ty
          have hs : (⟨x.e, x.f, vc, cs⟩ : Sw).s = x.s := by
            show (⟨x.e, x.f, cvs cs⟩ : Orp.Se) = ⟨x.e, x.f, cvs x.rs⟩
            rw [HC.out.2.1]
          have rd := H9.out.2.2.2.1
          rw [← hs] at rd
          obtain ⟨sa, sk, hsv, _, _⟩ := h2.is.shape
          refine ⟨v2, w2, h1, hide (M.out.1.next (x := ⟨x.e, x.f, vc, cs⟩) rd (by rw [M.out.2]; show ep < x.e; omega) HC.out.1.f h2 ((M.out.1.bel.trans (belc.mono M.out.1.bel.size)).trans h3.1)).1, ?_, sa, sk, hsv⟩
          have hVW := (belV.block _ (blk_lt hBW)).trans hBW
          refine blk_cell ((h3.2.block _ (blk_lt hVW) fun e => ?_).trans hVW) 0 rfl
          have q1 := (World.ownsRow.lt M.out.1.own.r _ e.symm).2
          have q2 := H9.out.2.2.2.2.size
          omega
        subst hvc
        clear CP M H9 SX BRB BWB OWNB BLK HXV szb HC belc hpu belV szV hBW HCZ HLN
        go_wp2_with (at_builtin; refine wpList_append_at rfl (.tmp 28) (.tmp 31) 41 rfl (.slice oa l.length ok) (.slice (some ⟨wc.heap.size, 0, none⟩) 1 1) rfl rfl XX.out ?_)
        rintro v8 w8 MU t0 sa sk rfl
        have LS := hide (LST.out cs (.slice ca cn ck))
        clear XX LST
        go_wp2
        go_roundw
        case rel => exact ⟨a + n, x.e, sa, sk, l ++ [⟨x.e, x.f, .slice ca cn ck, cs⟩], by omega, by go_num, rfl, by rw [List.length_append]; rfl, hide ⟨by rw [List.length_append]; exact MU.out, LS.out⟩⟩
        case measure => simp [intOf]; omega

end Go.Proofs.Ytkpnkknolobioaa

/- The document's Scan (layer 19). -/
namespace Go.Proofs.Ytkpnkknolobioaa
open Go.RowKit
set_option linter.unusedVariables false

set_option maxRecDepth 20000 in
set_option maxHeartbeats 8000000 in
theorem oscanR_any (vb : Value) (bs : List Int) (w : World) (hb : Is .u8 w vb bs) (hl : bs.length ≤ 1000000000) : Calls Try.prog 18 #[vb] w (ScO w bs) := by
  have HB := hide hb
  obtain ⟨ao, cap, hvb, _, _⟩ := hb.shape
  rw [hvb] at HB
  subst hvb
  clear hb
  go_enter Try.func18, Try.ntmps18
  go_wp2
  go_loopw [4, 5] (fun ov av wr => ∃ (a : Nat) (oa : Option Addr) (ok : Nat) (l : List Sw), a ≤ bs.length ∧ av = .int .i64 a ∧ ov = .slice oa l.length ok ∧ Hid (MiS w wr bs a (.slice oa l.length ok) l)) (fun _ av _ => bs.length - (intOf av).toNat)
  case atStart => exact ⟨0, none, 0, [], by omega, rfl, rfl, hide ⟨OwnSe.nil _ _, fun x hx => by simp at hx, trivial, by simp [sws, Orp.secs], by simp [sws, Orp.secs], Below.refl _ _⟩⟩
  case round =>
    obtain ⟨a, oa, ok, l, hle, rfl, rfl, M⟩ := hrel
    obtain ⟨vs, hsl, isl⟩ := (HB.out.below M.out.bel).slice_l Try.elemB Try.sizeE a hle
    have FR := hide (oreadR_any vs (bs.drop a) wr isl (by rw [List.length_drop]; omega))
    clear isl
    go_wp2_with fail
    refine FR.out.mono ?_
    rintro E w9 ⟨x, n, g, rfl, H9⟩
    obtain ⟨xa, xk, hxv, _, _⟩ := H9.out.1.c.row.shape
    have bel9 := H9.out.2.2.2.2
    obtain ⟨wb, hwb, hwb', szb, belb, bb, k0, k1, k2⟩ := new_step w9 24 (.int .i64 0) (.int .i64 0) (.slice none 0 0) (.int .i64 x.e) (.int .i64 x.f) x.v
    have belrb : Below wr.heap.size wr wb := bel9.trans (belb.mono bel9.size)
    have bwb : Below w.heap.size w wb := M.out.bel.trans (belrb.mono M.out.bel.size)
    have HXV := hide hxv
    have BRB := hide belrb
    have BWB := hide bwb
    have SX := hide (H9.out.1.below belb)
    have OWNB := hide (M.out.own.below belrb)
    rw [hxv] at hwb hwb' k2 ⊢
    clear FR hsl bb belb bel9 belrb bwb
    cases g with
    | false =>
      have FIN : Hid (Orp.Sn 0 bs (sws l)) := hide (M.out.no (by
        rcases H9.out.2.2.2.1 with ⟨h1, _⟩ | ⟨_, h⟩
        · simp at h1
        · exact h))
      have HAT := hide M.out.at'
      have HFT := hide M.out.fit
      clear M H9 SX BRB
      go_wp2_with fail
      go_quiet (fail)
      go_wp2
      go_ret2
      exact ⟨_, l, a, rfl, hide ⟨OWNB.out.below (below_drewN (Below.refl _ _) _), HFT.out, HAT.out, FIN.out, below_drewN BWB.out _⟩⟩
    | true =>
      by_cases hz : l.length = 0
      · have hl0 : l = [] := List.eq_nil_of_length_eq_zero hz
        have HGT : Hid (Orp.lstS 0 (sws l) < x.e) := hide (by
          rw [hl0]
          rcases H9.out.2.2.2.1 with ⟨_, h1, _⟩ | ⟨h1, _⟩
          · have := (Orp.chk_zero h1).1
            show (0 : Int) < x.e
            have : 1 ≤ x.e := this
            omega
          · simp at h1)
        have g0 : ¬ (0 : Int) < (l.length : Int) := by omega
        have g5 : decide (0 < l.length) = false := decide_eq_false (by omega)
        clear hz hl0
        have PU : Hid (∀ q, ∃ V, (wb.drewN q).alloc (.cells #[.int .i64 x.e, .int .i64 x.f, .slice xa x.rs.length xk] 24) = V ∧ Hid (∀ ty, ∃ v2 w2, (Builtin.append_ #[41, 41] ty #[.slice oa l.length ok, .slice (some ⟨wb.heap.size, 0, none⟩) 1 1]).run Try.prog V = .ok v2 w2 ∧ (MiS w w2 bs (a + n) v2 (l ++ [x]) ∧ ∃ a n k, v2 = .slice a n k))) := hide fun q => by
          have bq : Below wr.heap.size wr (wb.drewN q) := below_drewN BRB.out q
          obtain ⟨V, hV, belV, szV, hpu⟩ := M.out.own.push M.out.bel.size bq x (SX.out.below (below_drewN (Below.refl _ _) q)) ⟨H9.out.2.1, H9.out.2.2.1⟩ (by have := M.out.len; omega)
          rw [HXV.out] at hV
          refine ⟨V, hV, hide fun ty => ?_⟩
          obtain ⟨v2, w2, h1, h2, h3, h4⟩ := hpu ty
          refine ⟨v2, w2, h1, (M.out.next H9.out.2.2.2.1 HGT.out SX.out.f h2 ?_).1, h4⟩
          exact (below_drewN BWB.out q).trans h3
        have HN1 : Hid (1 ≤ n ∧ a + n ≤ bs.length) := hide (by
          rcases H9.out.2.2.2.1 with ⟨_, _, h2, h3⟩ | ⟨h1, _⟩
          · have h4 := Orp.sec_pos x.s
            have h5 := h2.length_le
            rw [List.length_drop] at h5
            omega
          · simp at h1)
        clear M H9 SX BRB BWB OWNB HGT HXV szb
        go_wp2_with fail
        go_quiet (fail)
        obtain ⟨V, hV, XX⟩ := PU.out nq
        go_wp2_with (at_builtin; refine wpList_append_at rfl (.tmp 38) (.tmp 40) 41 rfl (.slice oa l.length ok) (.slice (some ⟨wb.heap.size, 0, none⟩) 1 1) rfl rfl XX.out ?_)
        rintro v8 w8 MU a8 n8 k8 rfl
        obtain ⟨ja, jk, hjv, _, _⟩ := MU.own.is.shape
        simp only [Value.slice.injEq] at hjv
        obtain ⟨rfl, rfl, rfl⟩ := hjv
        have MU2 := hide MU
        obtain ⟨hn1, hn2⟩ := HN1.out
        clear MU PU HN1 XX
        go_wp2
        go_roundw
        case rel => exact ⟨a + n, _, _, l ++ [x], by omega, by go_num, rfl, MU2⟩
        case measure => simp [intOf]; omega
      · obtain ⟨y, hy⟩ : ∃ y, l[l.length - 1]? = some y := ⟨l[l.length - 1]'(by omega), List.getElem?_eq_getElem _⟩
        obtain ⟨b, off, cap2, hv2, _, _, hb2, hcell⟩ := OWNB.out.is.full (by omega)
        have d0 := (hcell _ y hy).1
        have hla := lst_at hy (by omega) 0
        simp only [Value.slice.injEq, true_and] at hv2
        obtain ⟨k, hk⟩ : ∃ k, l.length - 1 = k := ⟨_, rfl⟩
        rw [hk] at d0
        have g1 : (0 : Int) < (l.length : Int) := by omega
        have g5 : decide (0 < l.length) = true := decide_eq_true (by omega)
        have g2 : IntKind.i64.wrap ((l.length : Int) - 1) = (k : Int) := by rw [wrap64s _ (by omega) (by have := M.out.len; omega)]; omega
        have g3 : (k : Int) < (l.length : Int) := by omega
        have g4 : (0 : Int) ≤ (k : Int) := by omega
        obtain ⟨hoa, hok⟩ := hv2
        subst hoa hok
        clear hcell hy hk
        by_cases hle2 : x.e ≤ y.e
        · have FIN : Hid (Orp.Sn 0 bs (sws l)) := hide (M.out.low H9.out.2.2.2.1 (by rw [hla]; exact hle2))
          have HAT := hide M.out.at'
          have HFT := hide M.out.fit
          clear M H9 SX BRB hla
          go_wp2_with fail
          go_quiet (fail)
          go_wp2
          go_ret2
          exact ⟨_, l, a, rfl, hide ⟨OWNB.out.below (below_drewN (Below.refl _ _) _), HFT.out, HAT.out, FIN.out, below_drewN BWB.out _⟩⟩
        · have HGT : Hid (Orp.lstS 0 (sws l) < x.e) := hide (by rw [hla]; omega)
          clear hla
          have PU : Hid (∀ q, ∃ V, (wb.drewN q).alloc (.cells #[.int .i64 x.e, .int .i64 x.f, .slice xa x.rs.length xk] 24) = V ∧ Hid (∀ ty, ∃ v2 w2, (Builtin.append_ #[41, 41] ty #[.slice (some ⟨b, off, none⟩) l.length ok, .slice (some ⟨wb.heap.size, 0, none⟩) 1 1]).run Try.prog V = .ok v2 w2 ∧ (MiS w w2 bs (a + n) v2 (l ++ [x]) ∧ ∃ a n k, v2 = .slice a n k))) := hide fun q => by
            have bq : Below wr.heap.size wr (wb.drewN q) := below_drewN BRB.out q
            obtain ⟨V, hV, belV, szV, hpu⟩ := M.out.own.push M.out.bel.size bq x (SX.out.below (below_drewN (Below.refl _ _) q)) ⟨H9.out.2.1, H9.out.2.2.1⟩ (by have := M.out.len; omega)
            rw [HXV.out] at hV
            refine ⟨V, hV, hide fun ty => ?_⟩
            obtain ⟨v2, w2, h1, h2, h3, h4⟩ := hpu ty
            refine ⟨v2, w2, h1, (M.out.next H9.out.2.2.2.1 HGT.out SX.out.f h2 ?_).1, h4⟩
            exact (below_drewN BWB.out q).trans h3
          have HN1 : Hid (1 ≤ n ∧ a + n ≤ bs.length) := hide (by
            rcases H9.out.2.2.2.1 with ⟨_, _, h2, h3⟩ | ⟨h1, _⟩
            · have h4 := Orp.sec_pos x.s
              have h5 := h2.length_le
              rw [List.length_drop] at h5
              omega
            · simp at h1)
          clear M H9 SX BRB BWB OWNB HGT HXV szb
          go_wp2_with fail
          go_quiet (fail)
          obtain ⟨V, hV, XX⟩ := PU.out nq
          go_wp2_with (at_builtin; refine wpList_append_at rfl (.tmp 38) (.tmp 40) 41 rfl (.slice (some ⟨b, off, none⟩) l.length ok) (.slice (some ⟨wb.heap.size, 0, none⟩) 1 1) rfl rfl XX.out ?_)
          rintro v8 w8 MU a8 n8 k8 rfl
          obtain ⟨ja, jk, hjv, _, _⟩ := MU.own.is.shape
          simp only [Value.slice.injEq] at hjv
          obtain ⟨rfl, rfl, rfl⟩ := hjv
          have MU2 := hide MU
          obtain ⟨hn1, hn2⟩ := HN1.out
          clear MU PU HN1 XX
          go_wp2
          go_roundw
          case rel => exact ⟨a + n, _, _, l ++ [x], by omega, by go_num, rfl, MU2⟩
          case measure => simp [intOf]; omega

end Go.Proofs.Ytkpnkknolobioaa

/- The document's Has (layer 19). -/
namespace Go.Proofs.Ytkpnkknolobioaa
open Go.RowKit
set_option linter.unusedVariables false

def hasC (rs : List Cw) (e n : Int) : Bool := (cvs rs).any fun c => c.e == e && c.n == n

theorem hasC_next {rs : List Cw} {k : Nat} {c : Cw} (h : rs[k]? = some c) (e n : Int) : hasC (rs.take (k + 1)) e n = (hasC (rs.take k) e n || (c.e == e && c.n == n)) := by
  unfold hasC
  rw [cvs_step h, List.any_append]
  simp [Cw.c]

theorem has_next {l : List Sw} {k : Nat} {x : Sw} (h : l[k]? = some x) (e n : Int) : Orp.has (sws (l.take (k + 1))) e n = (Orp.has (sws (l.take k)) e n || hasC x.rs e n) := by
  obtain ⟨hk, q⟩ := List.getElem?_eq_some_iff.1 h
  rw [List.take_succ_eq_append_getElem hk, q, sws_snoc, Orp.has_app]
  simp [Orp.has, hasC, Sw.s]

theorem hasC_yes {rs : List Cw} {e n : Int} {k : Nat} (h : hasC (rs.take k) e n = true) : hasC rs e n = true := by
  have : cvs rs = cvs (rs.take k) ++ cvs (rs.drop k) := by unfold cvs; rw [← List.map_append, List.take_append_drop]
  unfold hasC at h ⊢
  rw [this, List.any_append, h]
  rfl

theorem has_yes {l : List Sw} {e n : Int} {k : Nat} (h : Orp.has (sws (l.take k)) e n = true) : Orp.has (sws l) e n = true := by
  have : sws l = sws (l.take k) ++ sws (l.drop k) := by unfold sws; rw [← List.map_append, List.take_append_drop]
  rw [this, Orp.has_app, h]
  rfl

set_option maxRecDepth 20000 in
set_option maxHeartbeats 8000000 in
theorem ohasR_any (vb : Value) (bs : List Int) (e n : Int) (w : World) (hb : Is .u8 w vb bs) (hl : bs.length ≤ 1000000000) (l : List Orp.Se) (hs : Orp.Sn 0 bs l) :
    Calls Try.prog 22 #[vb, .int .i64 e, .int .i64 n] w fun E w' => E = .returned (.bool (Orp.has l e n)) ∧ Below w.heap.size w w' := by
  have SC := hide (oscanR_any vb bs w hb hl)
  obtain ⟨ao, cap, hvb, _, _⟩ := hb.shape
  rw [hvb] at SC
  subst hvb
  have HS := hide hs
  clear hb hs
  go_enter Try.func22, Try.ntmps22
  go_wp2_with fail
  refine SC.out.mono ?_
  rintro E w2 ⟨v, sl, n2, rfl, H2⟩
  have hsl : sws sl = l := Orp.sn_one H2.out.2.2.2.1 HS.out
  subst hsl
  obtain ⟨oa, ok, hv, _, _⟩ := H2.out.1.is.shape
  have B2 := hide H2.out.2.2.2.2
  have LN : Hid (sl.length ≤ 1000000000) := hide (by
    have h1 := Orp.secs_len (sws sl)
    have h2 := H2.out.2.2.2.1.2.1.length_le
    rw [sws_len] at h1
    omega)
  have SEC : Hid (∀ i, i < sl.length → ∃ b off, v = .slice (some ⟨b, off, none⟩) sl.length ok ∧ ∃ x xa xk, sl[i]? = some x ∧ x.v = .slice xa x.rs.length xk ∧ w2.cell? ⟨b, off + i * 3 + 2, none⟩ = some (.slice xa x.rs.length xk) ∧ IsC w2 x.v x.rs ∧ x.rs.length ≤ 140737488351232) := hide fun i hi => by
    obtain ⟨b, off, cap2, hv2, _, _, _, hcell⟩ := H2.out.1.is.full (by omega)
    rw [hv] at hv2
    simp only [Value.slice.injEq, true_and] at hv2
    obtain ⟨rfl, rfl⟩ := hv2
    obtain ⟨x, hx⟩ : ∃ x, sl[i]? = some x := ⟨sl[i], List.getElem?_eq_getElem hi⟩
    have hm := List.mem_of_getElem? hx
    have hc := (H2.out.1.is.2 x hm).1
    obtain ⟨xa, xk, hxv, _, _⟩ := hc.1.shape
    have h2 := (hcell i x hx).2.2
    rw [hxv] at h2
    exact ⟨b, off, hv, x, xa, xk, hx, hxv, h2, hc, by have := (H2.out.2.1 x hm).2; omega⟩
  rw [hv] at SEC
  subst hv
  clear SC H2 HS
  have hln := LN.out
  go_wp2
  go_loopw [9] (fun iv wr => ∃ i : Nat, i ≤ sl.length ∧ iv = .int .i64 i ∧ Hid (Orp.has (sws (sl.take i)) e n = false) ∧ wr = w2) (fun iv _ => sl.length - (intOf iv).toNat)
  case atStart => exact ⟨0, by omega, rfl, hide (by simp [sws, Orp.has]), rfl⟩
  case round =>
    obtain ⟨i, hi, rfl, HF, rfl⟩ := hrel
    by_cases hlt : i < sl.length
    · obtain ⟨b, off, hvx, x, xa, xk, hx, hxv, d2, hic, hxl⟩ := SEC.out i hlt
      simp only [Value.slice.injEq, and_true] at hvx
      have hlt' : (i : Int) < sl.length := by omega
      have hi0 : (0 : Int) ≤ (i : Int) := by omega
      have NX := hide (has_next hx e n)
      have CC : Hid (∀ k, k < x.rs.length → ∃ b2 off2, xa = some ⟨b2, off2, none⟩ ∧ ∃ c, x.rs[k]? = some c ∧ wr.cell? ⟨b2, off2 + k * 3, none⟩ = some (.int .i64 c.e) ∧ wr.cell? ⟨b2, off2 + k * 3 + 1, none⟩ = some (.int .i64 c.n)) := hide fun k hk => by
        obtain ⟨b2, off2, cap2, hv2, _, _, _, hcell⟩ := hic.1.full (by omega)
        rw [hxv] at hv2
        simp only [Value.slice.injEq, true_and] at hv2
        obtain ⟨c, hc⟩ : ∃ c, x.rs[k]? = some c := ⟨x.rs[k], List.getElem?_eq_getElem hk⟩
        obtain ⟨k0, k1, _⟩ := hcell k c hc
        exact ⟨b2, off2, hv2.1, c, hc, k0, k1⟩
      have HX := hide hx
      subst hvx
      clear hic hxv hx
      go_wp2
      go_loopw [10] (fun kv wq => ∃ k : Nat, k ≤ x.rs.length ∧ kv = .int .i64 k ∧ Hid (hasC (x.rs.take k) e n = false) ∧ wq = wr) (fun kv _ => x.rs.length - (intOf kv).toNat)
      case atStart => exact ⟨0, by omega, rfl, hide (by simp [hasC, cvs]), rfl⟩
      case round =>
        obtain ⟨k, hk, rfl, HK, rfl⟩ := hrel
        by_cases hkl : k < x.rs.length
        · obtain ⟨b2, off2, hxa, c, hc, k0, k1⟩ := CC.out k hkl
          have hkl' : (k : Int) < x.rs.length := by omega
          have hk0 : (0 : Int) ≤ (k : Int) := by omega
          have NC := hide (hasC_next hc e n)
          subst hxa
          by_cases q1 : c.e = e
          · by_cases q2 : c.n = n
            · have YES : Hid (Orp.has (sws sl) e n = true) := hide (by
                refine has_yes (k := i + 1) ?_
                rw [NX.out, hasC_yes (k := k + 1) (by rw [NC.out]; simp [q1, q2])]
                simp)
              have t1 : (c.e == e) = true := by simp [q1]
              have t2 : (c.n == n) = true := by simp [q2]
              clear q1 q2 NC NX CC SEC HF HK hc
              go_wp2
              go_ret
              exact ⟨by rw [YES.out]; rfl, B2.out⟩
            · have NO : Hid (hasC (x.rs.take (k + 1)) e n = false) := hide (by rw [NC.out, HK.out]; simp [q2])
              have t1 : (c.e == e) = true := by simp [q1]
              have t2 : (c.n == n) = false := by simp [q2]
              clear q1 q2 NC hc
              go_wp2
              go_roundw
              case rel => exact ⟨k + 1, by omega, by go_num, NO, by first | trivial | rfl⟩
              case measure => simp [intOf]; omega
          · have NO : Hid (hasC (x.rs.take (k + 1)) e n = false) := hide (by rw [NC.out, HK.out]; simp [q1])
            have t1 : (c.e == e) = false := by simp [q1]
            clear q1 NC hc
            go_wp2
            go_roundw
            case rel => exact ⟨k + 1, by omega, by go_num, NO, by first | trivial | rfl⟩
            case measure => simp [intOf]; omega
        · have hkl' : ¬ (k : Int) < x.rs.length := by omega
          have NO : Hid (Orp.has (sws (sl.take (i + 1))) e n = false) := hide (by
            have := HK.out
            rw [List.take_of_length_le (by omega)] at this
            rw [NX.out, HF.out, this]
            rfl)
          go_wp2
          go_roundw
          case rel => exact ⟨i + 1, by omega, by go_num, NO, by first | trivial | rfl⟩
          case measure => simp [intOf]; omega
    · have hlt' : ¬ (i : Int) < sl.length := by omega
      have NO : Hid (Orp.has (sws sl) e n = false) := hide (by
        have := HF.out
        rw [List.take_of_length_le (by omega)] at this
        exact this)
      go_wp2
      go_ret
      exact ⟨by rw [NO.out]; rfl, B2.out⟩

end Go.Proofs.Ytkpnkknolobioaa

/- Bytes of an object, in blocks of its own. -/
namespace Go.Proofs.Ytkpnkknolobioaa
open Go.RowKit
set_option linter.unusedVariables false

/-- Bytes of an object: they lie in the blocks of F, in a block of bytes. -/
def Byt (F : Nat → Prop) (w : World) (v : Value) (zs : List Int) : Prop := Is .u8 w v zs ∧ ∀ b, v.ownBlock = some b → F b ∧ ∃ cs fr, w.heap[b]? = some (.cells cs 5 fr)

theorem Byt.nil (F : Nat → Prop) (w : World) : Byt F w (.slice none 0 0) [] := ⟨Is.nil _ _, fun b hb => by simp [Value.ownBlock] at hb⟩

theorem Byt.agree {F : Nat → Prop} {w w' : World} {v : Value} {zs : List Int} (h : Byt F w v zs) (ha : ∀ b, v.ownBlock = some b → w'.heap[b]? = w.heap[b]?) : Byt F w' v zs :=
  ⟨h.1.agree ha, fun b hb => ⟨(h.2 b hb).1, by obtain ⟨_, cs, fr, hc⟩ := h.2 b hb; exact ⟨cs, fr, (ha b hb).trans hc⟩⟩⟩

theorem Byt.mono {F G : Nat → Prop} {w : World} {v : Value} {zs : List Int} (h : Byt F w v zs) (hs : ∀ g, F g → G g) : Byt G w v zs := ⟨h.1, fun b hb => ⟨hs b (h.2 b hb).1, (h.2 b hb).2⟩⟩

theorem Byt.ne {F : Nat → Prop} {w : World} {v : Value} {zs : List Int} (h : Byt F w v zs) {p : Nat} {cs : Array Value} {t : TypeId} {fr : Nat × Nat} (hp : w.heap[p]? = some (.cells cs t fr)) (ht : t ≠ 5) : ∀ b, v.ownBlock = some b → b ≠ p := by
  intro b hb e
  obtain ⟨_, cs', fr', hc⟩ := h.2 b hb
  rw [e, hp] at hc
  simp at hc
  exact ht hc.2.1

theorem Byt.of_own {F : Nat → Prop} {base : Nat} {w : World} {v : Value} {zs : List Int} (h : Own .u8 5 base w v zs) (hF : ∀ b, base ≤ b → b < w.heap.size → F b) : Byt F w v zs := by
  refine ⟨h.is, fun b hb => ⟨hF b (h.block b hb).1 (h.block b hb).2, ?_⟩⟩
  rcases h.2.2 with ⟨rfl, _⟩ | ⟨g, cap, cur, rfl, _, hh, _⟩
  · simp [Value.ownBlock] at hb
  · simp [Value.ownBlock] at hb
    subst hb
    exact ⟨_, _, hh⟩

end Go.Proofs.Ytkpnkknolobioaa

/- The document's disk in memory, and the contracts of its small methods. -/
namespace Go.Proofs.Ytkpnkknolobioaa
open Go.RowKit
set_option linter.unusedVariables false

/-- A raw step as it stands in memory. -/
structure Rv where
  file : Nat
  cut : Bool
  to : Nat
  v : Value
  bytes : List Int

def Rv.r (r : Rv) : Dm.Rw := ⟨r.file, r.cut, r.to, r.bytes⟩
def rawc (r : Rv) : List Value := [.int .i64 r.file, .bool r.cut, .int .i64 r.to, r.v]
theorem rawc_len (r : Rv) : (rawc r).length = 4 := rfl

/-- A disk's ten cells. -/
def dcells (s : Nat → Value) (wv : Value) (on has : Bool) (left count : Int) : Array Value := #[.bool true, s 0, s 1, s 2, s 3, wv, .bool on, .bool has, .int .i64 left, .int .i64 count]

section
variable {p : Nat} {F G : Nat → Prop} {w w' w1 w2 : World} {st st' : Dm.Ds} {s s' : Nat → Value} {wv wv' : Value} {rs rs' : List Rv}

end

/-- Why nothing is done. -/
def ask (st : Dm.Ds) : Int := if st.on then 0 else 6

theorem ask_on {st : Dm.Ds} (h : st.on = true) : ask st = 0 := by simp [ask, h]
theorem ask_off {st : Dm.Ds} (h : st.on = false) : ask st = 6 := by simp [ask, h]

/-- The disk is nobody's where it was not made: a pointer to such a block, or none. -/
theorem ok_dark {st : Dm.Ds} (h : Dm.Ok st) : Dm.Ok (Dm.dark st) := h
theorem ok_burn {st : Dm.Ds} (h : Dm.Ok st) : Dm.Ok (Dm.burn st) := h

end Go.Proofs.Ytkpnkknolobioaa
