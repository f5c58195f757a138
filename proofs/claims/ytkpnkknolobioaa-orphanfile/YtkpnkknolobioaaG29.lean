/- Texts of one layer, one behind the other. -/
import Derived.Test.YtkpnkknolobioaaG25
import Derived.Test.YtkpnkknolobioaaZPj
import Derived.Test.YtkpnkknolobioaaG24
import Derived.Test.YtkpnkknolobioaaProg
import Derived.Test.YtkpnkknolobioaaG2
import Derived.Test.YtkpnkknolobioaaG26
import Derived.Test.YtkpnkknolobioaaG4
import Derived.Deep.RegionHeld3
/- Sizes of a disk to which sections are written; the disk of a statement (layer 19). -/
namespace Go.Proofs.Ytkpnkknolobioaa
open Go.RowKit
set_option linter.unusedVariables false

theorem big_wr2 {t u : Nat} {st : Dm.Ds} (h : Big t u st) (s : Orp.Se) : Big (t + (Orp.sec s).length) (u + cnt (Orp.sec s).length + 1) (Orp.wr2 st s).2 := by
  have h1 := big_write h 3 (Orp.sec s)
  have h2 := big_sync h1
  unfold Orp.wr2
  split
  · exact h1.mono (Nat.le_refl _) (by omega)
  · split
    · exact h2
    · exact h2

theorem big_wr1 {t u : Nat} {st : Dm.Ds} (h : Big t u st) (base : Int) (s : Orp.Se) : Big (t + (Orp.sec s).length) (u + cnt (Orp.sec s).length + 2) (Orp.wr1 st base s).2 := by
  have h1 := big_cut h 3 base
  unfold Orp.wr1
  split
  · split
    · exact h1.mono (by omega) (by omega)
    · exact (big_wr2 h1 s).mono (Nat.le_refl _) (by omega)
  · exact (big_wr2 h s).mono (Nat.le_refl _) (by omega)

theorem big_wrS {t u : Nat} {st : Dm.Ds} (h : Big t u st) (base : Int) (s : Orp.Se) : Big (t + (Orp.sec s).length) (u + cnt (Orp.sec s).length + 2) (Orp.wrS st base s).2 := by
  unfold Orp.wrS
  split
  · exact h.mono (by omega) (by omega)
  · split
    · exact h.mono (by omega) (by omega)
    · split
      · exact h.mono (by omega) (by omega)
      · exact big_wr1 h base s

/-- Bytes that are written and synced first. -/
theorem pre_ok (b0 : List Int) : (Dm.write Dm.new 3 b0).1 = 0 ∧ (Dm.sync (Dm.write Dm.new 3 b0).2).1 = 0 ∧ Orp.Q b0 (Dm.sync (Dm.write Dm.new 3 b0).2).2 ∧ (Dm.sync (Dm.write Dm.new 3 b0).2).2.on = true := by
  obtain ⟨h1, h2, h3, h4⟩ := Orp.wrt3 b0.length Dm.new b0 (Nat.le_refl _) rfl
  obtain ⟨g1, g2⟩ := h4 rfl
  rw [Orp.write3 b0 rfl]
  rcases h1 with ⟨k1, k2, k3⟩ | ⟨k1, _⟩
  · have e : Dm.sync (Dm.wrt 3 b0.length Dm.new b0).2 = (0, Dm.flush (Dm.burn (Dm.wrt 3 b0.length Dm.new b0).2)) := by
      unfold Dm.sync
      rw [if_neg (by simp [k2]), if_neg (by simp [Dm.off, g2])]
    rw [e]
    refine ⟨k1, rfl, ⟨?_, fun r hr => by simp [Dm.flush] at hr⟩, k2⟩
    have : (Dm.flush (Dm.burn (Dm.wrt 3 b0.length Dm.new b0).2)).sure 3 = b0 := by
      show Dm.dof _ _ 3 = b0
      rw [← Dm.hold_dof]
      have : Orp.hl (Dm.wrt 3 b0.length Dm.new b0).2 = b0 := by
        rw [k3]
        rfl
      exact this
    rw [this]
    exact List.prefix_rfl
  · rw [g1] at k1; simp at k1

/-- A disk that a statement made, at w0. -/
structure DkO (w0 w : World) (p : Nat) (st : Dm.Ds) : Prop where
  ex : ∃ F, Pk p F w st ∧ ∀ g, F g → w0.heap.size ≤ g
  bel : Below w0.heap.size w0 w

theorem DkO.call {w0 w : World} {p : Nat} {st st' : Dm.Ds} (h : DkO w0 w p st) {f : FuncId} {args : Array Value} {x : Value}
    (k : ∀ F, Pk p F w st → (∀ g, F g → w0.heap.size ≤ g) → Calls Try.prog f args w fun E w' => E = .returned x ∧ PStep p F w w' st') :
    Calls Try.prog f args w fun E w' => E = .returned x ∧ Hid (DkO w0 w' p st') := by
  obtain ⟨F, hk, hF⟩ := h.ex
  refine (k F hk hF).mono ?_
  rintro E w' ⟨rfl, F', pk, out, sub⟩
  refine ⟨rfl, hide ⟨⟨F', pk, fun g hg => ?_⟩, h.bel.trans (out.below hF h.bel.size)⟩⟩
  rcases sub g hg with q | q
  · exact hF g q
  · exact Nat.le_trans h.bel.size q

/-- A call that leaves the disk as it is. -/
theorem DkO.below {w0 w w' : World} {p : Nat} {st : Dm.Ds} (h : DkO w0 w p st) (hb : Below w.heap.size w w') : DkO w0 w' p st := by
  obtain ⟨F, hk, hF⟩ := h.ex
  exact ⟨⟨F, hk.below hb, hF⟩, h.bel.trans (hb.mono h.bel.size)⟩

/-- What lay below at w0 is still there. -/
theorem DkO.isC {w0 w : World} {p : Nat} {st : Dm.Ds} (h : DkO w0 w p st) {v : Value} {rs : List Cw} (hc : IsC w0 v rs) {F : Nat → Prop} (hF : ∀ g, F g → w0.heap.size ≤ g) : ∀ W, Out F w W → IsC W v rs := fun W ho =>
  hc.below (h.bel.trans (ho.below hF h.bel.size))

/-- Write of a section. -/
theorem DkO.wrS {w0 w : World} {p : Nat} {st : Dm.Ds} (h : DkO w0 w p st) {t u : Nat} (hB : Big t u st) (ht : t ≤ 100000000000) (hu : u + 20000 ≤ 1000000) (base e f : Int) (v : Value) (rs : List Cw) (hc : IsC w0 v rs) (hf : FitC rs) (hl : rs.length ≤ 2000) :
    Calls Try.prog 30 #[.pointer (some ⟨p, 0, none⟩), .int .i64 base, .agg #[.int .i64 e, .int .i64 f, v]] w fun E w' => E = .returned (.int .i64 (Orp.wrS st base ⟨e, f, cvs rs⟩).1) ∧ Hid (DkO w0 w' p (Orp.wrS st base ⟨e, f, cvs rs⟩).2) :=
  h.call fun F hk hF => powrite_any p F w st base e f v rs (h.isC hc hF) hf hl hk t u hB ht hu

end Go.Proofs.Ytkpnkknolobioaa

/- The contract of Pick. -/
namespace Go.Proofs.Ytkpnkknolobioaa
open Go.RowKit
set_option linter.unusedVariables false

set_option maxHeartbeats 400000 in
theorem pick_any (x n : Int) (w : World) (hn : 0 < n) (hn2 : n < 9223372036854775808) (hx : -9223372036854775808 ≤ x) (hx2 : x < 9223372036854775808) :
    Calls Try.prog 27 #[.int .i64 x, .int .i64 n] w fun e w' => (∃ p : Nat, (p : Int) < n ∧ e = .returned (.int .i64 p)) ∧ w = w' := by
  have hnz : (n == 0) = false := by simp; omega
  have ht1 : x.tmod n < n := Int.tmod_lt_of_pos x hn
  have ht2 : -n < x.tmod n := Int.lt_tmod_of_pos x hn
  by_cases h : x.tmod n < 0
  · go_enter Try.func27, Try.ntmps27
    go_wp2
    go_ret
    exact ⟨⟨(x.tmod n + n).toNat, by omega, ret_i64 (by omega)⟩, rfl⟩
  · go_enter Try.func27, Try.ntmps27
    go_wp2
    go_ret
    exact ⟨⟨(x.tmod n).toNat, by omega, ret_i64 (by omega)⟩, rfl⟩

/-- An integer of 64 bits. -/
def I64 (z : Int) : Prop := -9223372036854775808 ≤ z ∧ z ≤ 9223372036854775807

def pk (x n : Int) : Int := if x.tmod n < 0 then x.tmod n + n else x.tmod n

theorem pk_lt (x n : Int) (hn : 0 < n) : 0 ≤ pk x n ∧ pk x n < n := by
  have ht1 : x.tmod n < n := Int.tmod_lt_of_pos x hn
  have ht2 : -n < x.tmod n := Int.lt_tmod_of_pos x hn
  unfold pk
  split <;> omega

set_option maxHeartbeats 400000 in
theorem pickx_any (x n : Int) (w : World) (hn : 0 < n) (hn2 : n < 9223372036854775808) (hx : I64 x) :
    Calls Try.prog 27 #[.int .i64 x, .int .i64 n] w fun e w' => e = .returned (.int .i64 (pk x n)) ∧ w = w' := by
  have hnz : (n == 0) = false := by simp; omega
  obtain ⟨hx1, hx2⟩ := hx
  have ht1 : x.tmod n < n := Int.tmod_lt_of_pos x hn
  have ht2 : -n < x.tmod n := Int.lt_tmod_of_pos x hn
  by_cases h : x.tmod n < 0
  · have e : pk x n = x.tmod n + n := by simp [pk, h]
    rw [e]
    clear e
    go_enter Try.func27, Try.ntmps27
    go_wp2
    go_ret
    exact ⟨ret_i64 (by omega), rfl⟩
  · have e : pk x n = x.tmod n := by simp [pk, h]
    rw [e]
    clear e
    go_enter Try.func27, Try.ntmps27
    go_wp2
    go_ret
    exact ⟨ret_i64 (by omega), rfl⟩

end Go.Proofs.Ytkpnkknolobioaa

/- The statement's again (layer 19). -/
namespace Go.Proofs.Ytkpnkknolobioaa
open Go.RowKit
set_option linter.unusedVariables false

theorem cnt_le (n : Nat) (h : n ≤ 1000000) : cnt n ≤ 15626 := by unfold cnt; omega

theorem pull_is {st : Dm.Ds} (h : st.on = true) : (Dm.pull st).1 = 0 ∧ (Dm.pull st).2.on = false := by
  unfold Dm.pull
  rw [if_neg (by simp [h])]
  exact ⟨rfl, rfl⟩

theorem fuse_is {st : Dm.Ds} {n : Int} (h : st.on = true) (hn : 0 ≤ n) : (Dm.fuse st n).1 = 0 ∧ (Dm.fuse st n).2.on = true := by
  unfold Dm.fuse
  rw [if_neg (by simp [h]), if_neg (by omega)]
  exact ⟨rfl, h⟩

set_option maxRecDepth 20000 in
set_option maxHeartbeats 8000000 in
theorem again_any (e f : Int) (v : Value) (rs : List Cw) (vb : Value) (b0 : List Int) (fz k t : Int) (w : World) (h : IsC w v rs) (hf : FitC rs) (hl : rs.length ≤ 40) (hc : Orp.chk ⟨e, f, cvs rs⟩ = 0) (hb : Is .u8 w vb (b0 ++ Orp.sec ⟨e, f, cvs rs⟩)) (hlb : b0.length ≤ 900000) (if' : I64 fz) (it : I64 t) (hk : 0 ≤ k) (ht : 0 ≤ t) :
    Calls Try.prog 28 #[.agg #[.int .i64 e, .int .i64 f, v], vb, .int .i64 fz, .int .i64 k, .int .i64 t] w fun E w' => E = .returned (.bool true) ∧ Below w.heap.size w w' := by
  obtain ⟨w1, hw1, sz1, bel1, hB⟩ := blk_step w #[.int .i64 e, .int .i64 f, v] 24
  obtain ⟨s, hs⟩ : ∃ s : Orp.Se, ⟨e, f, cvs rs⟩ = s := ⟨_, rfl⟩
  have hsl : (Orp.sec s).length ≤ 17330 := by
    have := Orp.sec_le hc
    rw [hs] at this
    have h2 : s.cs.length = rs.length := by rw [← hs]; exact cvs_many rs
    omega
  have c0 : w1.cell? ⟨w.heap.size, 0, none⟩ = some (.int .i64 e) := blk_cell hB 0 rfl
  have c1 : w1.cell? ⟨w.heap.size, 1, none⟩ = some (.int .i64 f) := blk_cell hB 1 rfl
  have c2 : w1.cell? ⟨w.heap.size, 2, none⟩ = some v := blk_cell hB 2 rfl
  have EN := hide (poenc_any e f v rs w1 (h.below bel1) hf (by omega))
  rw [hs] at hc hb EN
  rw [hc, Orp.out_ok hc] at EN
  unfold cmv at EN
  obtain ⟨va, vk, hv, _, _⟩ := h.1.shape
  obtain ⟨ba, bk, hvb, _, _⟩ := hb.shape
  have hbl : (b0 ++ Orp.sec s).length = b0.length + (Orp.sec s).length := List.length_append
  have IC := hide h
  have IB := hide hb
  have HF := hide hf
  have HC := hide hc
  have HS := hide hs
  have B1 := hide bel1
  have BX : Hid (w1.heap[w.heap.size]? = some (.cells #[.int .i64 e, .int .i64 f, v] 24 (0, 0))) := hide hB
  rw [hbl] at hvb
  rw [hv] at hw1 c2 EN IC BX
  rw [hvb] at IB
  subst hv hvb
  clear h hb hf hc hs bel1 hB hbl
  go_enter Try.func28, Try.ntmps28
  go_wp2_with fail
  refine EN.out.mono ?_
  rintro E w2 ⟨vx, rfl, ownx, bel2⟩
  obtain ⟨xa, xk, hvx, _, _⟩ := ownx.is.shape
  have B2 := hide (B1.out.trans (bel2.mono B1.out.size))
  have BX2 := hide ((bel2.block _ (blk_lt BX.out)).trans BX.out)
  have hbase : IntKind.i64.wrap (((b0.length + (Orp.sec s).length : Nat) : Int) - ((Orp.sec s).length : Int)) = (b0.length : Int) := by rw [wrap64s _ (by omega) (by omega)]; omega
  obtain ⟨P1, P2, P3, P4⟩ := pre_ok b0
  have BG0 := big_sync (big_write big_new 3 b0)
  obtain ⟨st1, hst1⟩ : ∃ st, (Dm.write Dm.new 3 b0).2 = st := ⟨_, rfl⟩
  rw [hst1] at P2 P3 P4 BG0
  have BG1 : Big (0 + b0.length) (0 + cnt b0.length) st1 := by rw [← hst1]; exact big_write big_new 3 b0
  obtain ⟨st2, hst2⟩ : ∃ st, (Dm.sync st1).2 = st := ⟨_, rfl⟩
  rw [hst2] at P3 P4 BG0
  have hct := cnt_le b0.length (by omega)
  have hcs := cnt_le (Orp.sec s).length (by omega)
  have BG2 : Hid (Big 1000000 20000 st2) := hide (BG0.mono (by omega) (by omega))
  have Q2 := hide P3
  have ON2 := hide P4
  have lt2 : w.heap.size < w2.heap.size := blk_lt BX2.out
  have IC2 := hide (IC.out.below B2.out)
  have BOX : Hid (∀ W, Below w2.heap.size w2 W → W.cell? ⟨w.heap.size, 0, none⟩ = some (.int .i64 e) ∧ W.cell? ⟨w.heap.size, 1, none⟩ = some (.int .i64 f) ∧ W.cell? ⟨w.heap.size, 2, none⟩ = some (.slice va rs.length vk)) := hide fun W hW => by
    have hB := (hW.block _ lt2).trans BX2.out
    exact ⟨blk_cell hB 0 rfl, blk_cell hB 1 rfl, blk_cell hB 2 rfl⟩
  obtain ⟨vs, hvs, isl⟩ := (IB.out.below B2.out).slice_h Try.elemB Try.sizeE b0.length (by rw [List.length_append]; omega)
  rw [List.take_left] at isl
  have hvs' : ∀ wx, (Instr.slice 25 (.slice ba (b0.length + (Orp.sec s).length) bk) none (some (.int .i64 b0.length)) none).run Try.prog wx = .ok vs wx := hvs
  have ISL := hide isl
  have hb00 : ¬ (b0.length : Int) < 0 := by omega
  subst hvx
  clear EN ownx bel2 c0 c1 c2 P3 P4 BG0 isl hvs BX BX2
  go_wp2_with fail
  refine (new_any w2).mono ?_
  rintro E w3 ⟨rfl, pk3, bel3⟩
  have D3 : Hid (DkO w2 w3 w2.heap.size Dm.new) := hide ⟨⟨_, pk3, fun g hg => by omega⟩, bel3⟩
  have WR := hide (D3.out.call fun F hk hF => write_any w2.heap.size F w3 Dm.new 3 vs b0 hk (ISL.out.below bel3) (fun h0 b hb hFb => by have := ISL.out.lt h0 b hb; have := hF b hFb; omega) (by omega) (by show 0 + cnt b0.length ≤ 1000000; omega) (by decide) (by show 0 + cnt b0.length < 9223372036854775807; omega))
  rw [P1, hst1] at WR
  clear pk3 bel3 ISL
  go_wp2_with fail
  refine WR.out.mono ?_
  rintro E w4 ⟨rfl, D4⟩
  have SY := hide (D4.out.call fun F hk hF => sync_any w2.heap.size F w4 st1 hk (fun f => by have := BG1.1.1 f; omega) (by have := BG1.1.2.1; omega) BG1.2 (by have := BG1.1.2.2; omega))
  rw [P2, hst2] at SY
  clear WR D3
  go_wp2_with fail
  refine SY.out.mono ?_
  rintro E w5 ⟨rfl, D5⟩
  clear SY D4 BG1 hst1 hst2 P1 P2
  by_cases hfz : 0 ≤ fz
  · obtain ⟨f1, f2⟩ := fuse_is (n := fz) ON2.out hfz
    have FU := hide (D5.out.call fun F hk hF => fuse_any w2.heap.size F w5 st2 fz hk)
    rw [f1] at FU
    have Q3 := hide (Q2.out.fuse fz)
    have BG3 : Hid (Big 1000000 20000 (Dm.fuse st2 fz).2) := hide (big_fuse BG2.out fz (by have := if'.2; omega))
    obtain ⟨st3, hst3⟩ : ∃ st, (Dm.fuse st2 fz).2 = st := ⟨_, rfl⟩
    rw [hst3] at FU f2 Q3 BG3
    have ON3 := hide f2
    clear f1 f2 hst3 Q2 ON2 BG2
    go_wp2_with fail
    refine FU.out.mono ?_
    rintro E w6 ⟨rfl, D6⟩
    clear FU D5
    obtain ⟨k0, k1, k2⟩ := BOX.out w6 D6.out.bel
    have W1 := hide (D6.out.wrS BG3.out (by omega) (by omega) b0.length e f _ rs IC2.out HF.out (by omega))
    rw [HS.out] at W1
    obtain ⟨wis, _⟩ := Orp.wrS_is (s := s) ON3.out HC.out Q3.out.hl
    have Q4 := hide (Q3.out.wrS s)
    have BG4 : Hid (Big 1100000 40000 (Orp.wrS st3 b0.length s).2) := hide ((big_wrS BG3.out b0.length s).mono (by omega) (by omega))
    obtain ⟨⟨e1, st4⟩, h4⟩ : ∃ x, Orp.wrS st3 b0.length s = x := ⟨_, rfl⟩
    rw [h4] at W1 wis Q4 BG4
    simp only at W1 wis Q4 BG4
    clear h4 Q3 ON3 BG3
    go_wp2_with fail
    refine W1.out.mono ?_
    rintro E w7 ⟨rfl, D7⟩
    clear W1 D6 k0 k1 k2
    rcases wis with ⟨he1, hon, _, _⟩ | ⟨he1, hoff⟩
    · subst he1
      obtain ⟨F7, pk7, hF7⟩ := D7.out.ex
      have O7 := hide (on_any w2.heap.size F7 w7 st4 pk7)
      rw [hon] at O7
      obtain ⟨p1, p2⟩ := pull_is hon
      have PL := hide (D7.out.call fun F hk hF => pull_any w2.heap.size F w7 st4 hk)
      rw [p1] at PL
      have Q5 := hide Q4.out.pull
      have BG5 := hide (big_pull BG4.out)
      obtain ⟨st5, hst5⟩ : ∃ st, (Dm.pull st4).2 = st := ⟨_, rfl⟩
      rw [hst5] at PL p2 Q5 BG5
      clear pk7 p1 hst5 Q4 BG4 hon
      go_wp2_with fail
      refine O7.out.mono ?_
      rintro E w7' ⟨rfl, hww⟩
      obtain rfl := hww
      go_wp2_with fail
      refine O7.out.mono ?_
      rintro E w7' ⟨rfl, hww⟩
      obtain rfl := hww
      clear O7
      go_wp2_with fail
      refine PL.out.mono ?_
      rintro E w8 ⟨rfl, D8⟩
      clear PL D7
      obtain ⟨g1, g2, g3, g4⟩ := Orp.again (s := s) Q5.out p2 HC.out hk ht
      have STA := hide (D8.out.call fun F hk' hF => start_any w2.heap.size F w8 st5 k t hk' (by have := it.2; omega) (fun f => by have := BG5.out.1.1 f; omega) (by have := BG5.out.1.2.1; omega))
      rw [g1] at STA
      have BG6 := hide (big_start BG5.out k t)
      obtain ⟨st6, hst6⟩ : ∃ st, (Dm.start st5 k t).2 = st := ⟨_, rfl⟩
      rw [hst6] at STA BG6 g2 g3 g4
      have G3 := hide g3
      have G4 := hide g4
      clear g1 g3 g4 hst6 Q5 BG5 p2
      go_wp2_with fail
      refine STA.out.mono ?_
      rintro E w9 ⟨rfl, D9⟩
      obtain ⟨k0, k1, k2⟩ := BOX.out w9 D9.out.bel
      have W2 := hide (D9.out.wrS BG6.out (by omega) (by omega) b0.length e f _ rs IC2.out HF.out (by omega))
      rw [HS.out, g2] at W2
      have BG7 := hide (big_wrS BG6.out b0.length s)
      obtain ⟨st7, hst7⟩ : ∃ st, (Orp.wrS st6 b0.length s).2 = st := ⟨_, rfl⟩
      rw [hst7] at W2 BG7 G3 G4
      clear STA D8 g2 hst7 BG6
      go_wp2_with fail
      refine W2.out.mono ?_
      rintro E wa ⟨rfl, Da⟩
      obtain ⟨Fa, pka, hFa⟩ := Da.out.ex
      have DU := hide (durable_any w2.heap.size Fa wa st7 3 pka (fun f => by have := BG7.out.1.1 f; omega))
      rw [show duB st7 3 = b0 ++ Orp.sec s by unfold duB; rw [if_neg (by decide)]; exact G4.out] at DU
      clear W2 D9 k0 k1 k2 pka BG7
      go_wp2_with fail
      refine DU.out.mono ?_
      rintro E wb ⟨vd, rfl, ownd, belb⟩
      have Bb : Below w2.heap.size w2 wb := Da.out.bel.trans (belb.mono Da.out.bel.size)
      have SB := hide (same_yes vd _ (b0 ++ Orp.sec s) _ wb ownd.is ((IB.out.below B2.out).below Bb) (by rw [List.length_append]; omega) rfl)
      have BW := hide (B2.out.trans (Bb.mono B2.out.size))
      clear DU Da ownd belb Bb
      go_wp2_with fail
      refine SB.out.mono ?_
      rintro E wc ⟨rfl, belc⟩
      have BC := hide (BW.out.trans (belc.mono BW.out.size))
      clear SB BW belc
      go_wp2
      go_ret
      exact ⟨rfl, BC.out⟩
    · subst he1
      obtain ⟨F7, pk7, hF7⟩ := D7.out.ex
      have O7 := hide (on_any w2.heap.size F7 w7 st4 pk7)
      rw [hoff] at O7
      have Q5 := Q4
      have BG5 := BG4
      have D8 := D7
      have p2 := hoff
      obtain ⟨st5, hst5⟩ : ∃ st, st4 = st := ⟨_, rfl⟩
      obtain ⟨w8, hw8⟩ : ∃ x, w7 = x := ⟨_, rfl⟩
      rw [hst5] at Q5 BG5 D8 p2
      rw [hw8] at D8 O7 ⊢
      clear pk7 Q4 BG4 D7 hst5 hw8 hoff
      go_wp2_with fail
      refine O7.out.mono ?_
      rintro E w7' ⟨rfl, hww⟩
      obtain rfl := hww
      go_wp2_with fail
      refine O7.out.mono ?_
      rintro E w7' ⟨rfl, hww⟩
      obtain rfl := hww
      clear O7
      obtain ⟨g1, g2, g3, g4⟩ := Orp.again (s := s) Q5.out p2 HC.out hk ht
      have STA := hide (D8.out.call fun F hk' hF => start_any w2.heap.size F w8 st5 k t hk' (by have := it.2; omega) (fun f => by have := BG5.out.1.1 f; omega) (by have := BG5.out.1.2.1; omega))
      rw [g1] at STA
      have BG6 := hide (big_start BG5.out k t)
      obtain ⟨st6, hst6⟩ : ∃ st, (Dm.start st5 k t).2 = st := ⟨_, rfl⟩
      rw [hst6] at STA BG6 g2 g3 g4
      have G3 := hide g3
      have G4 := hide g4
      clear g1 g3 g4 hst6 Q5 BG5 p2
      go_wp2_with fail
      refine STA.out.mono ?_
      rintro E w9 ⟨rfl, D9⟩
      obtain ⟨k0, k1, k2⟩ := BOX.out w9 D9.out.bel
      have W2 := hide (D9.out.wrS BG6.out (by omega) (by omega) b0.length e f _ rs IC2.out HF.out (by omega))
      rw [HS.out, g2] at W2
      have BG7 := hide (big_wrS BG6.out b0.length s)
      obtain ⟨st7, hst7⟩ : ∃ st, (Orp.wrS st6 b0.length s).2 = st := ⟨_, rfl⟩
      rw [hst7] at W2 BG7 G3 G4
      clear STA D8 g2 hst7 BG6
      go_wp2_with fail
      refine W2.out.mono ?_
      rintro E wa ⟨rfl, Da⟩
      obtain ⟨Fa, pka, hFa⟩ := Da.out.ex
      have DU := hide (durable_any w2.heap.size Fa wa st7 3 pka (fun f => by have := BG7.out.1.1 f; omega))
      rw [show duB st7 3 = b0 ++ Orp.sec s by unfold duB; rw [if_neg (by decide)]; exact G4.out] at DU
      clear W2 D9 k0 k1 k2 pka BG7
      go_wp2_with fail
      refine DU.out.mono ?_
      rintro E wb ⟨vd, rfl, ownd, belb⟩
      have Bb : Below w2.heap.size w2 wb := Da.out.bel.trans (belb.mono Da.out.bel.size)
      have SB := hide (same_yes vd _ (b0 ++ Orp.sec s) _ wb ownd.is ((IB.out.below B2.out).below Bb) (by rw [List.length_append]; omega) rfl)
      have BW := hide (B2.out.trans (Bb.mono B2.out.size))
      clear DU Da ownd belb Bb
      go_wp2_with fail
      refine SB.out.mono ?_
      rintro E wc ⟨rfl, belc⟩
      have BC := hide (BW.out.trans (belc.mono BW.out.size))
      clear SB BW belc
      go_wp2
      go_ret
      exact ⟨rfl, BC.out⟩
  · have hfz' : ¬ fz ≥ 0 := by omega
    have Q3 := Q2
    have ON3 := ON2
    have BG3 := BG2
    have D6 := D5
    obtain ⟨st3, hst3⟩ : ∃ st, st2 = st := ⟨_, rfl⟩
    obtain ⟨w6, hw6⟩ : ∃ x, w5 = x := ⟨_, rfl⟩
    rw [hst3] at Q3 ON3 BG3 D6
    rw [hw6] at D6 ⊢
    clear Q2 ON2 BG2 D5 hst3 hw6
    obtain ⟨k0, k1, k2⟩ := BOX.out w6 D6.out.bel
    have W1 := hide (D6.out.wrS BG3.out (by omega) (by omega) b0.length e f _ rs IC2.out HF.out (by omega))
    rw [HS.out] at W1
    obtain ⟨wis, _⟩ := Orp.wrS_is (s := s) ON3.out HC.out Q3.out.hl
    have Q4 := hide (Q3.out.wrS s)
    have BG4 : Hid (Big 1100000 40000 (Orp.wrS st3 b0.length s).2) := hide ((big_wrS BG3.out b0.length s).mono (by omega) (by omega))
    obtain ⟨⟨e1, st4⟩, h4⟩ : ∃ x, Orp.wrS st3 b0.length s = x := ⟨_, rfl⟩
    rw [h4] at W1 wis Q4 BG4
    simp only at W1 wis Q4 BG4
    clear h4 Q3 ON3 BG3
    go_wp2_with fail
    refine W1.out.mono ?_
    rintro E w7 ⟨rfl, D7⟩
    clear W1 D6 k0 k1 k2
    rcases wis with ⟨he1, hon, _, _⟩ | ⟨he1, hoff⟩
    · subst he1
      obtain ⟨F7, pk7, hF7⟩ := D7.out.ex
      have O7 := hide (on_any w2.heap.size F7 w7 st4 pk7)
      rw [hon] at O7
      obtain ⟨p1, p2⟩ := pull_is hon
      have PL := hide (D7.out.call fun F hk hF => pull_any w2.heap.size F w7 st4 hk)
      rw [p1] at PL
      have Q5 := hide Q4.out.pull
      have BG5 := hide (big_pull BG4.out)
      obtain ⟨st5, hst5⟩ : ∃ st, (Dm.pull st4).2 = st := ⟨_, rfl⟩
      rw [hst5] at PL p2 Q5 BG5
      clear pk7 p1 hst5 Q4 BG4 hon
      go_wp2_with fail
      refine O7.out.mono ?_
      rintro E w7' ⟨rfl, hww⟩
      obtain rfl := hww
      go_wp2_with fail
      refine O7.out.mono ?_
      rintro E w7' ⟨rfl, hww⟩
      obtain rfl := hww
      clear O7
      go_wp2_with fail
      refine PL.out.mono ?_
      rintro E w8 ⟨rfl, D8⟩
      clear PL D7
      obtain ⟨g1, g2, g3, g4⟩ := Orp.again (s := s) Q5.out p2 HC.out hk ht
      have STA := hide (D8.out.call fun F hk' hF => start_any w2.heap.size F w8 st5 k t hk' (by have := it.2; omega) (fun f => by have := BG5.out.1.1 f; omega) (by have := BG5.out.1.2.1; omega))
      rw [g1] at STA
      have BG6 := hide (big_start BG5.out k t)
      obtain ⟨st6, hst6⟩ : ∃ st, (Dm.start st5 k t).2 = st := ⟨_, rfl⟩
      rw [hst6] at STA BG6 g2 g3 g4
      have G3 := hide g3
      have G4 := hide g4
      clear g1 g3 g4 hst6 Q5 BG5 p2
      go_wp2_with fail
      refine STA.out.mono ?_
      rintro E w9 ⟨rfl, D9⟩
      obtain ⟨k0, k1, k2⟩ := BOX.out w9 D9.out.bel
      have W2 := hide (D9.out.wrS BG6.out (by omega) (by omega) b0.length e f _ rs IC2.out HF.out (by omega))
      rw [HS.out, g2] at W2
      have BG7 := hide (big_wrS BG6.out b0.length s)
      obtain ⟨st7, hst7⟩ : ∃ st, (Orp.wrS st6 b0.length s).2 = st := ⟨_, rfl⟩
      rw [hst7] at W2 BG7 G3 G4
      clear STA D8 g2 hst7 BG6
      go_wp2_with fail
      refine W2.out.mono ?_
      rintro E wa ⟨rfl, Da⟩
      obtain ⟨Fa, pka, hFa⟩ := Da.out.ex
      have DU := hide (durable_any w2.heap.size Fa wa st7 3 pka (fun f => by have := BG7.out.1.1 f; omega))
      rw [show duB st7 3 = b0 ++ Orp.sec s by unfold duB; rw [if_neg (by decide)]; exact G4.out] at DU
      clear W2 D9 k0 k1 k2 pka BG7
      go_wp2_with fail
      refine DU.out.mono ?_
      rintro E wb ⟨vd, rfl, ownd, belb⟩
      have Bb : Below w2.heap.size w2 wb := Da.out.bel.trans (belb.mono Da.out.bel.size)
      have SB := hide (same_yes vd _ (b0 ++ Orp.sec s) _ wb ownd.is ((IB.out.below B2.out).below Bb) (by rw [List.length_append]; omega) rfl)
      have BW := hide (B2.out.trans (Bb.mono B2.out.size))
      clear DU Da ownd belb Bb
      go_wp2_with fail
      refine SB.out.mono ?_
      rintro E wc ⟨rfl, belc⟩
      have BC := hide (BW.out.trans (belc.mono BW.out.size))
      clear SB BW belc
      go_wp2
      go_ret
      exact ⟨rfl, BC.out⟩
    · subst he1
      obtain ⟨F7, pk7, hF7⟩ := D7.out.ex
      have O7 := hide (on_any w2.heap.size F7 w7 st4 pk7)
      rw [hoff] at O7
      have Q5 := Q4
      have BG5 := BG4
      have D8 := D7
      have p2 := hoff
      obtain ⟨st5, hst5⟩ : ∃ st, st4 = st := ⟨_, rfl⟩
      obtain ⟨w8, hw8⟩ : ∃ x, w7 = x := ⟨_, rfl⟩
      rw [hst5] at Q5 BG5 D8 p2
      rw [hw8] at D8 O7 ⊢
      clear pk7 Q4 BG4 D7 hst5 hw8 hoff
      go_wp2_with fail
      refine O7.out.mono ?_
      rintro E w7' ⟨rfl, hww⟩
      obtain rfl := hww
      go_wp2_with fail
      refine O7.out.mono ?_
      rintro E w7' ⟨rfl, hww⟩
      obtain rfl := hww
      clear O7
      obtain ⟨g1, g2, g3, g4⟩ := Orp.again (s := s) Q5.out p2 HC.out hk ht
      have STA := hide (D8.out.call fun F hk' hF => start_any w2.heap.size F w8 st5 k t hk' (by have := it.2; omega) (fun f => by have := BG5.out.1.1 f; omega) (by have := BG5.out.1.2.1; omega))
      rw [g1] at STA
      have BG6 := hide (big_start BG5.out k t)
      obtain ⟨st6, hst6⟩ : ∃ st, (Dm.start st5 k t).2 = st := ⟨_, rfl⟩
      rw [hst6] at STA BG6 g2 g3 g4
      have G3 := hide g3
      have G4 := hide g4
      clear g1 g3 g4 hst6 Q5 BG5 p2
      go_wp2_with fail
      refine STA.out.mono ?_
      rintro E w9 ⟨rfl, D9⟩
      obtain ⟨k0, k1, k2⟩ := BOX.out w9 D9.out.bel
      have W2 := hide (D9.out.wrS BG6.out (by omega) (by omega) b0.length e f _ rs IC2.out HF.out (by omega))
      rw [HS.out, g2] at W2
      have BG7 := hide (big_wrS BG6.out b0.length s)
      obtain ⟨st7, hst7⟩ : ∃ st, (Orp.wrS st6 b0.length s).2 = st := ⟨_, rfl⟩
      rw [hst7] at W2 BG7 G3 G4
      clear STA D8 g2 hst7 BG6
      go_wp2_with fail
      refine W2.out.mono ?_
      rintro E wa ⟨rfl, Da⟩
      obtain ⟨Fa, pka, hFa⟩ := Da.out.ex
      have DU := hide (durable_any w2.heap.size Fa wa st7 3 pka (fun f => by have := BG7.out.1.1 f; omega))
      rw [show duB st7 3 = b0 ++ Orp.sec s by unfold duB; rw [if_neg (by decide)]; exact G4.out] at DU
      clear W2 D9 k0 k1 k2 pka BG7
      go_wp2_with fail
      refine DU.out.mono ?_
      rintro E wb ⟨vd, rfl, ownd, belb⟩
      have Bb : Below w2.heap.size w2 wb := Da.out.bel.trans (belb.mono Da.out.bel.size)
      have SB := hide (same_yes vd _ (b0 ++ Orp.sec s) _ wb ownd.is ((IB.out.below B2.out).below Bb) (by rw [List.length_append]; omega) rfl)
      have BW := hide (B2.out.trans (Bb.mono B2.out.size))
      clear DU Da ownd belb Bb
      go_wp2_with fail
      refine SB.out.mono ?_
      rintro E wc ⟨rfl, belc⟩
      have BC := hide (BW.out.trans (belc.mono BW.out.size))
      clear SB BW belc
      go_wp2
      go_ret
      exact ⟨rfl, BC.out⟩

end Go.Proofs.Ytkpnkknolobioaa

/- OrphanTorn: what it gathers. -/
namespace Go.Proofs.Ytkpnkknolobioaa
open Go.RowKit
set_option linter.unusedVariables false

theorem Try.info3 : (Try.prog.info? 3).map (fun i => (i.zero, i.size, i.bytes)) = some (some (.int .i64 0), 1, 8) := by kernel_rfl

/-- Where the first k sections end. -/
def enS (l : List Sw) (k : Nat) : List Int := (List.range k).map fun i => ((Orp.secs (sws (l.take (i + 1)))).length : Int)

theorem enS_len (l : List Sw) (k : Nat) : (enS l k).length = k := by simp [enS]
theorem enS_next (l : List Sw) (k : Nat) : enS l (k + 1) = enS l k ++ [((Orp.secs (sws (l.take (k + 1)))).length : Int)] := by
  unfold enS
  rw [List.range_succ, List.map_append]
  rfl
theorem enS_at (l : List Sw) (k i : Nat) (h : i < k) : (enS l k).getD i 0 = ((Orp.secs (sws (l.take (i + 1)))).length : Int) := by
  simp [enS, List.getD, h]

theorem takeS_next {l : List Sw} {k : Nat} {x : Sw} (h : l[k]? = some x) : l.take (k + 1) = l.take k ++ [x] := by
  obtain ⟨h1, h2⟩ := List.getElem?_eq_some_iff.1 h
  rw [List.take_succ_eq_append_getElem h1, h2]
theorem secs_next {l : List Sw} {k : Nat} {x : Sw} (h : l[k]? = some x) : Orp.secs (sws (l.take (k + 1))) = Orp.secs (sws (l.take k)) ++ Orp.sec x.s := by
  rw [takeS_next h, sws_snoc, Orp.secs_app, Orp.secs_one]
theorem ris_next {l : List Sw} {k : Nat} {x : Sw} (h : l[k]? = some x) (hr : Orp.Ris 0 (sws (l.take k))) (hc : Orp.chk x.s = 0) (hg : Orp.lstS 0 (sws (l.take k)) < x.e) : Orp.Ris 0 (sws (l.take (k + 1))) := by
  rw [takeS_next h, sws_snoc, Orp.ris_app]
  exact ⟨hr, hc, hg, trivial⟩
theorem lst_next {l : List Sw} {k : Nat} {x : Sw} (h : l[k]? = some x) : Orp.lstS 0 (sws (l.take (k + 1))) = x.e := by
  rw [takeS_next h, sws_snoc, Orp.lst_snoc]
  rfl

theorem secs_small : ∀ (l : List Sw), (∀ x ∈ l, Orp.chk x.s = 0 ∧ x.rs.length ≤ 40) → (Orp.secs (sws l)).length ≤ 17330 * l.length
  | [], _ => by simp [sws, Orp.secs]
  | x :: l, h => by
    have h1 := secs_small l fun q hq => h q (by simp [hq])
    obtain ⟨h2, h3⟩ := h x (by simp)
    have h4 := Orp.sec_le h2
    rw [show x.s.cs = cvs x.rs from rfl, cvs_many] at h4
    have e : Orp.secs (sws (x :: l)) = Orp.sec x.s ++ Orp.secs (sws l) := rfl
    rw [e, List.length_append, List.length_cons]
    omega

/-- Own rows of unlike types lie apart. -/
theorem own_unlike {w : World} {u v : Value} {k k' : IntKind} {e e' b1 b2 : Nat} {ys zs : List Int} (h : Own k e b1 w u ys) (hr : Own k' e' b2 w v zs) (hne : e ≠ e') : u.ownBlock = none ∨ u.ownBlock ≠ v.ownBlock := by
  cases hu : u.ownBlock with
  | none => exact .inl rfl
  | some b =>
    refine .inr fun e'' => ?_
    obtain ⟨c1, h1⟩ := h.block_type hu
    obtain ⟨c2, h2⟩ := hr.block_type e''.symm
    rw [h1] at h2
    simp at h2
    exact hne h2.2

/-- In the midst of the first loop. -/
structure TI (w1 wr : World) (l : List Sw) (i : Nat) (vb ve : Value) : Prop where
  b : Own .u8 5 w1.heap.size wr vb (Orp.secs (sws (l.take i)))
  e : Own .i64 3 w1.heap.size wr ve (enS l i)
  bel : Below w1.heap.size w1 wr
  ris : Orp.Ris 0 (sws (l.take i))
  sm : ∀ x ∈ l.take i, x.rs.length ≤ 40

theorem TI.small {w1 wr : World} {l : List Sw} {i : Nat} {vb ve : Value} (h : TI w1 wr l i vb ve) (hi : i ≤ 40) : (Orp.secs (sws (l.take i))).length ≤ 693200 := by
  have := secs_small (l.take i) fun x hx => ⟨Orp.ris_all h.ris x.s (by unfold sws; exact List.mem_map_of_mem hx), h.sm x hx⟩
  rw [List.length_take] at this
  have : 17330 * min i l.length ≤ 17330 * 40 := Nat.mul_le_mul_left _ (by omega)
  omega

theorem TI.below {w1 wr w' : World} {l : List Sw} {i : Nat} {vb ve : Value} (h : TI w1 wr l i vb ve) (hb : Below wr.heap.size wr w') : TI w1 w' l i vb ve := ⟨h.b.below hb, h.e.below hb, h.bel.trans (hb.mono h.bel.size), h.ris, h.sm⟩

/-- Sections of a cut of a list. -/
theorem IsSe.take {w : World} {v vs : Value} {l : List Sw} (h : IsSe w v l) {n : Nat} (hr : RowC w vs ((swc l).take n)) : IsSe w vs (l.take n) := by
  refine ⟨?_, fun x hx => h.2 x (List.mem_of_mem_take hx)⟩
  unfold swc at hr ⊢
  rw [List.map_take]
  exact hr

end Go.Proofs.Ytkpnkknolobioaa

/- OrphanFile: the disk and what was written to it. -/
namespace Go.Proofs.Ytkpnkknolobioaa
open Go.RowKit
set_option linter.unusedVariables false

/-- In the midst: the disk and what was written to it. -/
structure FI (w2 wr : World) (p : Nat) (l : List Sw) (i : Nat) (st : Dm.Ds) : Prop where
  dk : DkO w2 wr p st
  su : st.sure 3 = Orp.secs (sws (l.take i))
  wt : st.wait = []
  on : st.on = true
  fu : st.has = false
  big : Big (17330 * i) (300 * i) st
  ris : Orp.Ris 0 (sws (l.take i))
  sm : ∀ x ∈ l.take i, x.rs.length ≤ 40

theorem FI.below {w2 wr w' : World} {p i : Nat} {l : List Sw} {st : Dm.Ds} (h : FI w2 wr p l i st) (hb : Below wr.heap.size wr w') : FI w2 w' p l i st := ⟨h.dk.below hb, h.su, h.wt, h.on, h.fu, h.big, h.ris, h.sm⟩

theorem FI.small {w2 wr : World} {p i : Nat} {l : List Sw} {st : Dm.Ds} (h : FI w2 wr p l i st) (hi : i ≤ 40) : (Orp.secs (sws (l.take i))).length ≤ 693200 := by
  have := secs_small (l.take i) fun x hx => ⟨Orp.ris_all h.ris x.s (by unfold sws; exact List.mem_map_of_mem hx), h.sm x hx⟩
  rw [List.length_take] at this
  have : 17330 * min i l.length ≤ 17330 * 40 := Nat.mul_le_mul_left _ (by omega)
  omega

/-- What Durable tells. -/
theorem FI.dur {w2 wr : World} {p i : Nat} {l : List Sw} {st : Dm.Ds} (h : FI w2 wr p l i st) (hi : i ≤ 40) :
    Calls Try.prog 31 #[.pointer (some ⟨p, 0, none⟩), .int .i64 3] wr fun E w' => ∃ v, E = .returned v ∧ Own .u8 5 wr.heap.size w' v (Orp.secs (sws (l.take i))) ∧ Below wr.heap.size wr w' := by
  obtain ⟨F, hk, hF⟩ := h.dk.ex
  have := durable_any p F wr st 3 hk (fun f => by have h1 := h.big.1.1 f; have : 17330 * i ≤ 17330 * 40 := Nat.mul_le_mul_left _ hi; omega)
  rw [show duB st 3 = Orp.secs (sws (l.take i)) by unfold duB; rw [if_neg (by decide)]; exact h.su] at this
  exact this

/-- Write at the file's length. -/
theorem FI.wr {w2 wr : World} {p i : Nat} {l : List Sw} {st : Dm.Ds} (h : FI w2 wr p l i st) (hi : i < 40) {x : Sw} (hx : l[i]? = some x) (hc : Orp.chk x.s = 0) (hg : Orp.lstS 0 (sws (l.take i)) < x.e) (h40 : x.rs.length ≤ 40) {v : Value} (hic : IsC w2 v x.rs) (hf : FitC x.rs) {n : Nat} (hn : n = (Orp.secs (sws (l.take i))).length) :
    Calls Try.prog 30 #[.pointer (some ⟨p, 0, none⟩), .int .i64 n, .agg #[.int .i64 x.e, .int .i64 x.f, v]] wr fun E w' => E = .returned (.int .i64 0) ∧ ∃ st', Hid (FI w2 w' p l (i + 1) st') := by
  subst hn
  have hb : Orp.secs (sws (l.take i)) <+: Orp.hl st := by
    unfold Orp.hl
    rw [h.wt, h.su]
    exact List.prefix_rfl
  obtain ⟨h1, h2⟩ := Orp.wrS_is (st := st) (s := x.s) h.on hc hb
  obtain ⟨g1, g2⟩ := h2 h.fu
  have hsl : (Orp.sec x.s).length ≤ 17330 := by
    have := Orp.sec_le hc
    rw [show x.s.cs = cvs x.rs from rfl, cvs_many] at this
    omega
  have hcn : cnt (Orp.sec x.s).length ≤ 272 := by unfold cnt; omega
  have hbg := big_wrS h.big (Orp.secs (sws (l.take i))).length x.s
  refine (h.dk.wrS h.big (by omega) (by omega) (Orp.secs (sws (l.take i))).length x.e x.f v x.rs hic hf (by omega)).mono ?_
  rintro E w' ⟨rfl, D⟩
  refine ⟨congrArg (fun z => Ending.returned (.int .i64 z)) g1, _, hide ⟨D.out, ?_, ?_, ?_, g2, hbg.mono (by omega) (by omega), ris_next hx h.ris hc hg, ?_⟩⟩
  · rcases h1 with ⟨_, _, k3, _⟩ | ⟨k1, _⟩
    · rw [secs_next hx]; exact k3
    · rw [g1] at k1; simp at k1
  · rcases h1 with ⟨_, _, _, k4⟩ | ⟨k1, _⟩
    · exact k4
    · rw [g1] at k1; simp at k1
  · rcases h1 with ⟨_, k2, _, _⟩ | ⟨k1, _⟩
    · exact k2
    · rw [g1] at k1; simp at k1
  · rw [takeS_next hx]
    intro y hy
    rcases List.mem_append.1 hy with hy | hy
    · exact h.sm y hy
    · rw [List.mem_singleton.1 hy]; exact h40

theorem FI.pend {w2 wr : World} {p i : Nat} {l : List Sw} {st : Dm.Ds} (h : FI w2 wr p l i st) : Calls Try.prog 32 #[.pointer (some ⟨p, 0, none⟩)] wr fun E w' => E = .returned (.int .i64 0) ∧ wr = w' := by
  obtain ⟨F, hk, hF⟩ := h.dk.ex
  have := pend_any p F wr st hk
  rw [h.wt] at this
  exact this

/-- A commit that was written is found. -/
theorem has_in {l : List Sw} {i : Nat} {x : Sw} (hx : l[i]? = some x) {k : Nat} {c : Cw} (hc : x.rs[k]? = some c) : Orp.has (sws (l.take (i + 1))) c.e c.n = true := by
  rw [has_next hx, hasC_yes (k := k + 1) (by rw [hasC_next hc]; simp)]
  simp

end Go.Proofs.Ytkpnkknolobioaa
