/- The program's Scan; a wal's small calls. -/
import Derived.Test.YtimmohpnlieefaaVg
import Derived.Test.YtimmohpnlieefaaA6
import Derived.Test.YtimmohpnlieefaaA4
import Derived.Test.YtimmohpnlieefaaDn
namespace Go.Proofs.Ytimmohpnlieefaa
open Go.RowKit
set_option linter.unusedVariables false

set_option maxRecDepth 20000 in
set_option maxHeartbeats 1000000 in
theorem wscan_any (vb : Value) (bs : List Int) (w : World) (hb : Is .u8 w vb bs) (hl : bs.length ≤ 1000000000) :
    Calls Try.prog 13 #[vb] w fun E w' => ∃ (l : List Cm.Cv) (vc ve : Value) (rs : List Cw), E = .returned (.tuple #[vc, .int .i64 (Wl.lgb l).length]) ∧ Lw w.heap.size w' l vc ve rs ∧ ApC rs ∧ Below w.heap.size w w' ∧ Hid (Wl.Lg 0 0 bs l) := by
  have HR := hide (wread_any vb bs w hb hl)
  obtain ⟨ba, bc, hvb, _, _⟩ := hb.shape
  subst hvb
  clear hb
  go_enter Try.func13, Try.ntmps13
  go_wp2_with fail
  refine HR.out.mono ?_
  rintro E w1 ⟨l, vc, ve, rs, rfl, L1, ap, bel1, LG⟩
  obtain ⟨V, hV, hV2, szV, belV, bV, c0, c1⟩ := new_two w1 48 (.slice none 0 0) (.slice none 0 0) vc ve
  have LV := L1.below belV
  have hlen := LV.len
  have hll := good_len LV.good
  have HE : Hid (∀ n, Calls Try.prog 49 #[.pointer (some ⟨w1.heap.size, 0, none⟩)] (V.drewN n) fun E w' => E = .returned (.int .i64 l.length) ∧ ∃ m, w' = (V.drewN n).drewN m) := hide fun n => by
    have := lend_any w1.heap.size 0 (V.drewN n) vc rs c0 (LV.r.row.row.below (below_drewN (Below.refl _ _) n))
    rw [hlen] at this
    exact this.mono fun E w' h => ⟨h.1, 0, by rw [← h.2]; rfl⟩
  have HP : Hid (∀ n, Calls Try.prog 48 #[.pointer (some ⟨w1.heap.size, 0, none⟩), .int .i64 l.length] (V.drewN n) fun E w' => E = .returned (.int .i64 (Wl.lgb l).length) ∧ ∃ m, w' = (V.drewN n).drewN m) := hide fun n => by
    have := lplace_any w1.heap.size 0 (V.drewN n) ve l l.length (Nat.le_refl _) hll c1 (LV.r.en.is.drewN n)
    rw [List.take_length] at this
    exact this.mono fun E w' h => ⟨h.1, 0, by rw [← h.2]; rfl⟩
  obtain ⟨ac, ncap, hvc, _, _⟩ := LV.r.row.row.shape
  obtain ⟨ae, ecap, hve, _, _⟩ := LV.r.en.is.shape
  have G : Hid (∀ m, Lw w.heap.size (V.drewN m) l vc ve rs ∧ ApC rs ∧ Below w.heap.size w (V.drewN m) ∧ Hid (Wl.Lg 0 0 bs l)) := hide fun m => ⟨LV.below (below_drewN (Below.refl _ _) m), ap, below_drewN (bel1.trans (belV.mono bel1.size)) m, LG⟩
  subst hvc hve
  generalize hz : (Wl.lgb l).length = z at *
  have HZ := hide hz
  clear hz L1 LV ap bel1 belV bV hlen hll LG HR
  go_wp2
  go_quiet (first | (go_at_call 49; refine Calls.quiet_of (HE.out _)) | (go_at_call 48; refine Calls.quiet_of (HP.out _)))
  go_wp2
  go_ret2
  exact ⟨l, _, _, _, by rw [HZ.out]; rfl, G.out _⟩

end Go.Proofs.Ytimmohpnlieefaa
