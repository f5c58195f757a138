/- The law's pair: do both tell the same? The walk, in one order. -/
import Derived.Test.YtmkpaedemjiboaaGreatWxd
namespace Go.Proofs.YtmkpaedemjiboaaGreat
open Go.RowKit
set_option linter.unusedVariables false

set_option maxRecDepth 20000 in
set_option maxHeartbeats 20000000 in
theorem psame_any (w0 : World) (r : Nat) (w : World) (s : Wl.Ws) (p q x y : Nat) (F G : Nat → Prop) (h : PV w0 r w s s p q x y F G) (hb : WBig s) (hl : s.l.length ≤ 1000000) :
    Calls Tryz.prog 10 #[.pointer (some ⟨r, 0, none⟩)] w fun E w' => E = .returned (.bool true) ∧ Below w.heap.size w w' := by
  have HV := hide h
  have HC : Hid (∀ W, Below w.heap.size w W → W.cell? ⟨r, 0, none⟩ = some (.pointer (some ⟨q, 0, none⟩)) ∧ W.cell? ⟨r, 1, none⟩ = some (.pointer (some ⟨p, 0, none⟩)) ∧ W.cell? ⟨r, 2, none⟩ = some (.pointer (some ⟨y, 0, none⟩)) ∧ W.cell? ⟨r, 3, none⟩ = some (.pointer (some ⟨x, 0, none⟩))) := hide fun W hW => (h.below hW).cells
  obtain ⟨F1, G1, h1, h2, hF⟩ := id h.ww
  obtain ⟨F3, v, rs, g1, g2, g3, hG⟩ := id h.xx
  have hd := hb.big
  have GD := hide h.xx.good
  have E1 : Hid (∀ W, Below w.heap.size w W → Calls Tryz.prog 21 #[.pointer (some ⟨p, 0, none⟩)] W fun E w' => E = .returned (.int .i64 s.l.length) ∧ Below w.heap.size w w' ∧ w'.cell? ⟨r, 0, none⟩ = some (.pointer (some ⟨q, 0, none⟩)) ∧ w'.cell? ⟨r, 1, none⟩ = some (.pointer (some ⟨p, 0, none⟩)) ∧ w'.cell? ⟨r, 2, none⟩ = some (.pointer (some ⟨y, 0, none⟩)) ∧ w'.cell? ⟨r, 3, none⟩ = some (.pointer (some ⟨x, 0, none⟩))) := hide fun W hW => by
    refine (wend_any p q F W s (HV.out.ww.below hW)).mono ?_
    rintro E w' ⟨rfl, rfl⟩
    exact ⟨rfl, hW, HC.out _ hW⟩
  have E2 : Hid (∀ W, Below w.heap.size w W → Calls Tryz.prog 30 #[.pointer (some ⟨x, 0, none⟩)] W fun E w' => E = .returned (.int .i64 s.l.length) ∧ Below w.heap.size w w' ∧ w'.cell? ⟨r, 0, none⟩ = some (.pointer (some ⟨q, 0, none⟩)) ∧ w'.cell? ⟨r, 1, none⟩ = some (.pointer (some ⟨p, 0, none⟩)) ∧ w'.cell? ⟨r, 2, none⟩ = some (.pointer (some ⟨y, 0, none⟩)) ∧ w'.cell? ⟨r, 3, none⟩ = some (.pointer (some ⟨x, 0, none⟩))) := hide fun W hW => by
    refine (endX_any x y G W s (HV.out.xx.below hW)).mono ?_
    rintro E w' ⟨rfl, rfl⟩
    exact ⟨rfl, hW, HC.out _ hW⟩
  have E3 : Hid (∀ W, Below w.heap.size w W → Calls Tryz.prog 22 #[.pointer (some ⟨p, 0, none⟩)] W fun E w' => E = .returned (.int .i64 (Cm.lastE 0 s.l)) ∧ Below w.heap.size w w' ∧ w'.cell? ⟨r, 0, none⟩ = some (.pointer (some ⟨q, 0, none⟩)) ∧ w'.cell? ⟨r, 1, none⟩ = some (.pointer (some ⟨p, 0, none⟩)) ∧ w'.cell? ⟨r, 2, none⟩ = some (.pointer (some ⟨y, 0, none⟩)) ∧ w'.cell? ⟨r, 3, none⟩ = some (.pointer (some ⟨x, 0, none⟩))) := hide fun W hW => by
    refine (wepoch_any p q F W s (HV.out.ww.below hW)).mono ?_
    rintro E w' ⟨rfl, m, rfl⟩
    exact ⟨rfl, below_drewN hW m, HC.out _ (below_drewN hW m)⟩
  have E4 : Hid (∀ W, Below w.heap.size w W → Calls Tryz.prog 29 #[.pointer (some ⟨x, 0, none⟩)] W fun E w' => E = .returned (.int .i64 (Cm.lastE 0 s.l)) ∧ Below w.heap.size w w' ∧ w'.cell? ⟨r, 0, none⟩ = some (.pointer (some ⟨q, 0, none⟩)) ∧ w'.cell? ⟨r, 1, none⟩ = some (.pointer (some ⟨p, 0, none⟩)) ∧ w'.cell? ⟨r, 2, none⟩ = some (.pointer (some ⟨y, 0, none⟩)) ∧ w'.cell? ⟨r, 3, none⟩ = some (.pointer (some ⟨x, 0, none⟩))) := hide fun W hW => by
    refine (epochX_any x y G W s (HV.out.xx.below hW)).mono ?_
    rintro E w' ⟨rfl, m, rfl⟩
    exact ⟨rfl, below_drewN hW m, HC.out _ (below_drewN hW m)⟩
  have E5 : Hid (∀ W, Below w.heap.size w W → Calls Tryz.prog 18 #[.pointer (some ⟨p, 0, none⟩)] W fun E w' => E = .returned (.int .i64 (Wl.lgb s.l).length) ∧ Below w.heap.size w w' ∧ w'.cell? ⟨r, 0, none⟩ = some (.pointer (some ⟨q, 0, none⟩)) ∧ w'.cell? ⟨r, 1, none⟩ = some (.pointer (some ⟨p, 0, none⟩)) ∧ w'.cell? ⟨r, 2, none⟩ = some (.pointer (some ⟨y, 0, none⟩)) ∧ w'.cell? ⟨r, 3, none⟩ = some (.pointer (some ⟨x, 0, none⟩))) := hide fun W hW => by
    refine (wlength_any p q F W s (HV.out.ww.below hW)).mono ?_
    rintro E w' ⟨rfl, m, rfl⟩
    exact ⟨rfl, below_drewN hW m, HC.out _ (below_drewN hW m)⟩
  have E6 : Hid (∀ W, Below w.heap.size w W → Calls Tryz.prog 42 #[.pointer (some ⟨x, 0, none⟩)] W fun E w' => E = .returned (.int .i64 (Wl.lgb s.l).length) ∧ Below w.heap.size w w' ∧ w'.cell? ⟨r, 0, none⟩ = some (.pointer (some ⟨q, 0, none⟩)) ∧ w'.cell? ⟨r, 1, none⟩ = some (.pointer (some ⟨p, 0, none⟩)) ∧ w'.cell? ⟨r, 2, none⟩ = some (.pointer (some ⟨y, 0, none⟩)) ∧ w'.cell? ⟨r, 3, none⟩ = some (.pointer (some ⟨x, 0, none⟩))) := hide fun W hW => by
    refine (lengthX_any x y G W s (HV.out.xx.below hW)).mono ?_
    rintro E w' ⟨rfl, b⟩
    exact ⟨rfl, hW.trans (b.mono hW.size), HC.out _ (hW.trans (b.mono hW.size))⟩
  have P1 : Hid (∀ W, Below w.heap.size w W → Calls Tryz.prog 48 #[.pointer (some ⟨q, 0, none⟩)] W fun E w' => E = .returned (.int .i64 s.d.wait.length) ∧ Below w.heap.size w w' ∧ w'.cell? ⟨r, 0, none⟩ = some (.pointer (some ⟨q, 0, none⟩)) ∧ w'.cell? ⟨r, 1, none⟩ = some (.pointer (some ⟨p, 0, none⟩)) ∧ w'.cell? ⟨r, 2, none⟩ = some (.pointer (some ⟨y, 0, none⟩)) ∧ w'.cell? ⟨r, 3, none⟩ = some (.pointer (some ⟨x, 0, none⟩))) := hide fun W hW => by
    refine (pend_any q F1 W s.d (h1.below hW)).mono ?_
    rintro E w' ⟨rfl, rfl⟩
    exact ⟨rfl, hW, HC.out _ hW⟩
  have P2 : Hid (∀ W, Below w.heap.size w W → Calls Tryz.prog 49 #[.pointer (some ⟨y, 0, none⟩)] W fun E w' => E = .returned (.int .i64 s.d.wait.length) ∧ Below w.heap.size w w' ∧ w'.cell? ⟨r, 0, none⟩ = some (.pointer (some ⟨q, 0, none⟩)) ∧ w'.cell? ⟨r, 1, none⟩ = some (.pointer (some ⟨p, 0, none⟩)) ∧ w'.cell? ⟨r, 2, none⟩ = some (.pointer (some ⟨y, 0, none⟩)) ∧ w'.cell? ⟨r, 3, none⟩ = some (.pointer (some ⟨x, 0, none⟩))) := hide fun W hW => by
    refine (pendR_any y F3 W s.d (g1.below hW)).mono ?_
    rintro E w' ⟨rfl, rfl⟩
    exact ⟨rfl, hW, HC.out _ hW⟩
  have P3 : Hid (∀ W, Below w.heap.size w W → Calls Tryz.prog 50 #[.pointer (some ⟨q, 0, none⟩)] W fun E w' => E = .returned (.bool s.d.on) ∧ Below w.heap.size w w' ∧ w'.cell? ⟨r, 0, none⟩ = some (.pointer (some ⟨q, 0, none⟩)) ∧ w'.cell? ⟨r, 1, none⟩ = some (.pointer (some ⟨p, 0, none⟩)) ∧ w'.cell? ⟨r, 2, none⟩ = some (.pointer (some ⟨y, 0, none⟩)) ∧ w'.cell? ⟨r, 3, none⟩ = some (.pointer (some ⟨x, 0, none⟩))) := hide fun W hW => by
    refine (on_any q F1 W s.d (h1.below hW)).mono ?_
    rintro E w' ⟨rfl, rfl⟩
    exact ⟨rfl, hW, HC.out _ hW⟩
  have P4 : Hid (∀ W, Below w.heap.size w W → Calls Tryz.prog 51 #[.pointer (some ⟨y, 0, none⟩)] W fun E w' => E = .returned (.bool s.d.on) ∧ Below w.heap.size w w' ∧ w'.cell? ⟨r, 0, none⟩ = some (.pointer (some ⟨q, 0, none⟩)) ∧ w'.cell? ⟨r, 1, none⟩ = some (.pointer (some ⟨p, 0, none⟩)) ∧ w'.cell? ⟨r, 2, none⟩ = some (.pointer (some ⟨y, 0, none⟩)) ∧ w'.cell? ⟨r, 3, none⟩ = some (.pointer (some ⟨x, 0, none⟩))) := hide fun W hW => by
    refine (onR_any y F3 W s.d (g1.below hW)).mono ?_
    rintro E w' ⟨rfl, rfl⟩
    exact ⟨rfl, hW, HC.out _ hW⟩
  have P5 : Hid (∀ W, Below w.heap.size w W → Calls Tryz.prog 52 #[.pointer (some ⟨q, 0, none⟩)] W fun E w' => E = .returned (.int .i64 s.d.count) ∧ Below w.heap.size w w' ∧ w'.cell? ⟨r, 0, none⟩ = some (.pointer (some ⟨q, 0, none⟩)) ∧ w'.cell? ⟨r, 1, none⟩ = some (.pointer (some ⟨p, 0, none⟩)) ∧ w'.cell? ⟨r, 2, none⟩ = some (.pointer (some ⟨y, 0, none⟩)) ∧ w'.cell? ⟨r, 3, none⟩ = some (.pointer (some ⟨x, 0, none⟩))) := hide fun W hW => by
    refine (steps_any q F1 W s.d (h1.below hW)).mono ?_
    rintro E w' ⟨rfl, rfl⟩
    exact ⟨rfl, hW, HC.out _ hW⟩
  have P6 : Hid (∀ W, Below w.heap.size w W → Calls Tryz.prog 53 #[.pointer (some ⟨y, 0, none⟩)] W fun E w' => E = .returned (.int .i64 s.d.count) ∧ Below w.heap.size w w' ∧ w'.cell? ⟨r, 0, none⟩ = some (.pointer (some ⟨q, 0, none⟩)) ∧ w'.cell? ⟨r, 1, none⟩ = some (.pointer (some ⟨p, 0, none⟩)) ∧ w'.cell? ⟨r, 2, none⟩ = some (.pointer (some ⟨y, 0, none⟩)) ∧ w'.cell? ⟨r, 3, none⟩ = some (.pointer (some ⟨x, 0, none⟩))) := hide fun W hW => by
    refine (stepsR_any y F3 W s.d (g1.below hW)).mono ?_
    rintro E w' ⟨rfl, rfl⟩
    exact ⟨rfl, hW, HC.out _ hW⟩
  have S1 : Hid (∀ W, Below w.heap.size w W → Calls Tryz.prog 14 #[.pointer (some ⟨p, 0, none⟩)] W fun E w' => ∃ v, E = .returned v ∧ (∃ a n c, v = .slice a n c) ∧ OwnS W.heap.size w' v (ofs s.l) ∧ Below W.heap.size W w' ∧ Below w.heap.size w w' ∧ w'.cell? ⟨r, 0, none⟩ = some (.pointer (some ⟨q, 0, none⟩)) ∧ w'.cell? ⟨r, 1, none⟩ = some (.pointer (some ⟨p, 0, none⟩)) ∧ w'.cell? ⟨r, 2, none⟩ = some (.pointer (some ⟨y, 0, none⟩)) ∧ w'.cell? ⟨r, 3, none⟩ = some (.pointer (some ⟨x, 0, none⟩))) := hide fun W hW => by
    refine (wstarts_any p q F W s (HV.out.ww.below hW) hl).mono ?_
    rintro E w' ⟨v, rfl, own, b⟩
    obtain ⟨a, c, hv, _⟩ := own.row.shape
    exact ⟨v, rfl, ⟨a, _, c, hv⟩, own, b, hW.trans (b.mono hW.size), HC.out _ (hW.trans (b.mono hW.size))⟩
  have S2 : Hid (∀ W, Below w.heap.size w W → Calls Tryz.prog 44 #[.pointer (some ⟨x, 0, none⟩)] W fun E w' => ∃ v, E = .returned v ∧ (∃ a n c, v = .slice a n c) ∧ OwnS W.heap.size w' v (ofs s.l) ∧ Below W.heap.size W w' ∧ Below w.heap.size w w' ∧ w'.cell? ⟨r, 0, none⟩ = some (.pointer (some ⟨q, 0, none⟩)) ∧ w'.cell? ⟨r, 1, none⟩ = some (.pointer (some ⟨p, 0, none⟩)) ∧ w'.cell? ⟨r, 2, none⟩ = some (.pointer (some ⟨y, 0, none⟩)) ∧ w'.cell? ⟨r, 3, none⟩ = some (.pointer (some ⟨x, 0, none⟩))) := hide fun W hW => by
    refine (startsX_any x y G W s (HV.out.xx.below hW) hl).mono ?_
    rintro E w' ⟨v, rfl, own, b⟩
    obtain ⟨a, c, hv, _⟩ := own.row.shape
    exact ⟨v, rfl, ⟨a, _, c, hv⟩, own, b, hW.trans (b.mono hW.size), HC.out _ (hW.trans (b.mono hW.size))⟩
  have S3 : Hid (∀ W va vb, Below w.heap.size w W → RowS W va (ofs s.l) → RowS W vb (ofs s.l) → Calls Tryz.prog 43 #[va, vb] W fun E w' => E = .returned (.bool true) ∧ Below w.heap.size w w' ∧ w'.cell? ⟨r, 0, none⟩ = some (.pointer (some ⟨q, 0, none⟩)) ∧ w'.cell? ⟨r, 1, none⟩ = some (.pointer (some ⟨p, 0, none⟩)) ∧ w'.cell? ⟨r, 2, none⟩ = some (.pointer (some ⟨y, 0, none⟩)) ∧ w'.cell? ⟨r, 3, none⟩ = some (.pointer (some ⟨x, 0, none⟩))) := hide fun W va vb hW ha hb => by
    refine (sameS_yes va vb (ofs s.l) W ha hb (by have := ofs_len s.l; omega)).mono ?_
    rintro E w' ⟨rfl, m, rfl⟩
    exact ⟨rfl, below_drewN hW m, HC.out _ (below_drewN hW m)⟩
  have R1 : Hid (∀ W, Below w.heap.size w W → Calls Tryz.prog 12 #[.pointer (some ⟨p, 0, none⟩), .int .i64 1, .int .i64 60] W fun E w' => ∃ v rs, E = .returned v ∧ (∃ a n c, v = .slice a n c) ∧ OwnR 37 W.heap.size w' v rs ∧ CopyR W.heap.size w' rs ∧ cvs rs = frl s.l 1 60 ∧ Below W.heap.size W w' ∧ Below w.heap.size w w' ∧ w'.cell? ⟨r, 0, none⟩ = some (.pointer (some ⟨q, 0, none⟩)) ∧ w'.cell? ⟨r, 1, none⟩ = some (.pointer (some ⟨p, 0, none⟩)) ∧ w'.cell? ⟨r, 2, none⟩ = some (.pointer (some ⟨y, 0, none⟩)) ∧ w'.cell? ⟨r, 3, none⟩ = some (.pointer (some ⟨x, 0, none⟩))) := hide fun W hW => by
    refine (wfrom_any p q F W s 1 60 (HV.out.ww.below hW)).mono ?_
    rintro E w' ⟨v, rs, rfl, own, cop, is, _, b⟩
    obtain ⟨a, c, hv, _⟩ := own.row.shape
    exact ⟨v, rs, rfl, ⟨a, _, c, hv⟩, own, cop, is, b, hW.trans (b.mono hW.size), HC.out _ (hW.trans (b.mono hW.size))⟩
  have R2 : Hid (∀ W, Below w.heap.size w W → Calls Tryz.prog 41 #[.pointer (some ⟨x, 0, none⟩), .int .i64 1, .int .i64 60] W fun E w' => ∃ v rs, E = .returned v ∧ (∃ a n c, v = .slice a n c) ∧ OwnR 37 W.heap.size w' v rs ∧ CopyR W.heap.size w' rs ∧ cvs rs = frl s.l 1 60 ∧ Below W.heap.size W w' ∧ Below w.heap.size w w' ∧ w'.cell? ⟨r, 0, none⟩ = some (.pointer (some ⟨q, 0, none⟩)) ∧ w'.cell? ⟨r, 1, none⟩ = some (.pointer (some ⟨p, 0, none⟩)) ∧ w'.cell? ⟨r, 2, none⟩ = some (.pointer (some ⟨y, 0, none⟩)) ∧ w'.cell? ⟨r, 3, none⟩ = some (.pointer (some ⟨x, 0, none⟩))) := hide fun W hW => by
    refine (fromX_any x y G W s 1 60 (HV.out.xx.below hW) (by decide)).mono ?_
    rintro E w' ⟨v, rs, rfl, own, cop, is, b⟩
    obtain ⟨a, c, hv, _⟩ := own.row.shape
    exact ⟨v, rs, rfl, ⟨a, _, c, hv⟩, own, cop, is, b, hW.trans (b.mono hW.size), HC.out _ (hW.trans (b.mono hW.size))⟩
  have R3 : Hid (∀ W va vb ra rb b1 b2, Below w.heap.size w W → OwnR 37 b1 W va ra → CopyR b1 W ra → cvs ra = frl s.l 1 60 → OwnR 37 b2 W vb rb → CopyR b2 W rb → cvs rb = frl s.l 1 60 → Calls Tryz.prog 40 #[va, vb] W fun E w' => E = .returned (.bool true) ∧ Below w.heap.size w w' ∧ w'.cell? ⟨r, 0, none⟩ = some (.pointer (some ⟨q, 0, none⟩)) ∧ w'.cell? ⟨r, 1, none⟩ = some (.pointer (some ⟨p, 0, none⟩)) ∧ w'.cell? ⟨r, 2, none⟩ = some (.pointer (some ⟨y, 0, none⟩)) ∧ w'.cell? ⟨r, 3, none⟩ = some (.pointer (some ⟨x, 0, none⟩))) := hide fun W va vb ra rb b1 b2 hW a1 a2 a3 c1 c2 c3 => by
    obtain ⟨y1, y2, y3⟩ := frl_isc a1.row a2 a3 GD.out
    obtain ⟨z1, z2, z3⟩ := frl_isc c1.row c2 c3 GD.out
    have := sameCs_any va vb ra rb W y1 z1 y2 z2 (by omega) (by omega)
    rw [sameV_iff.2 (a3.trans c3.symm)] at this
    refine this.mono ?_
    rintro E w' ⟨rfl, b⟩
    exact ⟨rfl, hW.trans (b.mono hW.size), HC.out _ (hW.trans (b.mono hW.size))⟩
  have D1 : Hid (∀ W, Below w.heap.size w W → Calls Tryz.prog 46 #[.pointer (some ⟨q, 0, none⟩), .int .i64 0] W fun E w' => ∃ v, E = .returned v ∧ (∃ a n c, v = .slice a n c) ∧ Own .u8 5 W.heap.size w' v (duB s.d 0) ∧ Below W.heap.size W w' ∧ Below w.heap.size w w' ∧ w'.cell? ⟨r, 0, none⟩ = some (.pointer (some ⟨q, 0, none⟩)) ∧ w'.cell? ⟨r, 1, none⟩ = some (.pointer (some ⟨p, 0, none⟩)) ∧ w'.cell? ⟨r, 2, none⟩ = some (.pointer (some ⟨y, 0, none⟩)) ∧ w'.cell? ⟨r, 3, none⟩ = some (.pointer (some ⟨x, 0, none⟩))) := hide fun W hW => by
    refine (durable_any q F1 W s.d 0 (h1.below hW) (fun f => Nat.le_trans (hd.1.1 f) (by decide))).mono ?_
    rintro E w' ⟨v, rfl, own, b⟩
    obtain ⟨a, c, hv, _⟩ := own.is.shape
    exact ⟨v, rfl, ⟨a, _, c, hv⟩, own, b, hW.trans (b.mono hW.size), HC.out _ (hW.trans (b.mono hW.size))⟩
  have D2 : Hid (∀ W, Below w.heap.size w W → Calls Tryz.prog 47 #[.pointer (some ⟨y, 0, none⟩), .int .i64 0] W fun E w' => ∃ v, E = .returned v ∧ (∃ a n c, v = .slice a n c) ∧ Own .u8 5 W.heap.size w' v (duB s.d 0) ∧ Below W.heap.size W w' ∧ Below w.heap.size w w' ∧ w'.cell? ⟨r, 0, none⟩ = some (.pointer (some ⟨q, 0, none⟩)) ∧ w'.cell? ⟨r, 1, none⟩ = some (.pointer (some ⟨p, 0, none⟩)) ∧ w'.cell? ⟨r, 2, none⟩ = some (.pointer (some ⟨y, 0, none⟩)) ∧ w'.cell? ⟨r, 3, none⟩ = some (.pointer (some ⟨x, 0, none⟩))) := hide fun W hW => by
    refine (durR_any y F3 W s.d 0 (g1.below hW) (fun f => Nat.le_trans (hd.1.1 f) (by decide))).mono ?_
    rintro E w' ⟨v, rfl, own, b⟩
    obtain ⟨a, c, hv, _⟩ := own.is.shape
    exact ⟨v, rfl, ⟨a, _, c, hv⟩, own, b, hW.trans (b.mono hW.size), HC.out _ (hW.trans (b.mono hW.size))⟩
  have D3 : Hid (∀ W va vb, Below w.heap.size w W → Is .u8 W va (duB s.d 0) → Is .u8 W vb (duB s.d 0) → Calls Tryz.prog 45 #[va, vb] W fun E w' => E = .returned (.bool true) ∧ Below w.heap.size w w' ∧ w'.cell? ⟨r, 0, none⟩ = some (.pointer (some ⟨q, 0, none⟩)) ∧ w'.cell? ⟨r, 1, none⟩ = some (.pointer (some ⟨p, 0, none⟩)) ∧ w'.cell? ⟨r, 2, none⟩ = some (.pointer (some ⟨y, 0, none⟩)) ∧ w'.cell? ⟨r, 3, none⟩ = some (.pointer (some ⟨x, 0, none⟩))) := hide fun W va vb hW ha hb => by
    refine (same_yes va vb _ _ W ha hb (by have := duB_len hd 0; omega) rfl).mono ?_
    rintro E w' ⟨rfl, b⟩
    exact ⟨rfl, hW.trans (b.mono hW.size), HC.out _ (hW.trans (b.mono hW.size))⟩
  obtain ⟨a0, a1, a2, a3⟩ := HC.out w (Below.refl _ _)
  generalize s.l.length = n1 at *
  generalize Cm.lastE 0 s.l = n2 at *
  generalize (Wl.lgb s.l).length = n3 at *
  generalize s.d.wait.length = n4 at *
  generalize s.d.on = n5 at *
  generalize s.d.count = n6 at *
  clear h h1 h2 hF g1 g2 g3 hG hb hl hd HV HC GD
  go_enter Tryz.func10, Tryz.ntmps10
  go_wp2_with fail
  refine region_way (ops := (regOf 1 Tryz.f10)) (S := fun w' => w'.cell? ⟨r, 0, none⟩ = some (.pointer (some ⟨q, 0, none⟩)) ∧ w'.cell? ⟨r, 1, none⟩ = some (.pointer (some ⟨p, 0, none⟩)) ∧ w'.cell? ⟨r, 2, none⟩ = some (.pointer (some ⟨y, 0, none⟩)) ∧ w'.cell? ⟨r, 3, none⟩ = some (.pointer (some ⟨x, 0, none⟩))) (by kernel_rfl) (by kernel_rfl) (fun _ _ _ _ _ h => h) sameOrd (by kernel_rfl) same_way ⟨a0, a1, a2, a3⟩ ?_
  unfold sameOrd
  refine seq_take (v := ?_) rfl rfl (by rfl) ?_ ?_
  rotate_left 1
  · intro w hS
    (try dsimp only at hS)
    go_simp
    all_goals with_reducible rfl
  simp only [Act.put, List.setIfInBounds_toArray, List.set_cons_zero, List.set_cons_succ]
  refine seq_take (v := ?_) rfl rfl (by rfl) ?_ ?_
  rotate_left 1
  · intro w hS
    (try dsimp only at hS)
    go_simp
    all_goals with_reducible rfl
  simp only [Act.put, List.setIfInBounds_toArray, List.set_cons_zero, List.set_cons_succ]
  refine seq_take (v := ?_) rfl rfl (by rfl) ?_ ?_
  rotate_left 1
  · intro w hS
    (try dsimp only at hS)
    go_simp
    all_goals with_reducible rfl
  simp only [Act.put, List.setIfInBounds_toArray, List.set_cons_zero, List.set_cons_succ]
  refine seq_take (v := ?_) rfl rfl (by rfl) ?_ ?_
  rotate_left 1
  · intro w hS
    (try dsimp only at hS)
    go_simp
    all_goals with_reducible rfl
  simp only [Act.put, List.setIfInBounds_toArray, List.set_cons_zero, List.set_cons_succ]
  refine seq_take (v := ?_) rfl rfl (by rfl) ?_ ?_
  rotate_left 1
  · intro w hS
    (try dsimp only at hS)
    go_simp
    all_goals with_reducible rfl
  simp only [Act.put, List.setIfInBounds_toArray, List.set_cons_zero, List.set_cons_succ]
  refine seq_take (v := ?_) rfl rfl (by rfl) ?_ ?_
  rotate_left 1
  · intro w hS
    (try dsimp only at hS)
    go_simp
    all_goals with_reducible rfl
  simp only [Act.put, List.setIfInBounds_toArray, List.set_cons_zero, List.set_cons_succ]
  refine seq_take (v := ?_) rfl rfl (by rfl) ?_ ?_
  rotate_left 1
  · intro w hS
    (try dsimp only at hS)
    go_simp
    all_goals with_reducible rfl
  simp only [Act.put, List.setIfInBounds_toArray, List.set_cons_zero, List.set_cons_succ]
  refine seq_take (v := ?_) rfl rfl (by rfl) ?_ ?_
  rotate_left 1
  · intro w hS
    (try dsimp only at hS)
    go_simp
    all_goals with_reducible rfl
  simp only [Act.put, List.setIfInBounds_toArray, List.set_cons_zero, List.set_cons_succ]
  refine seq_meet rfl (by rfl) (fun K hK => ?_)
  go_simp
  go_at_call 21
  refine (E1.out _ ((Below.refl _ _).drew)).mono ?_
  rintro E w1 ⟨rfl, b1, a0, a1, a2, a3⟩
  go_wp2_with fail
  refine hK.out _ _ ⟨a0, a1, a2, a3⟩ ?_
  clear hK K
  try simp only [Act.put, List.setIfInBounds_toArray, List.set_cons_zero, List.set_cons_succ]
  refine seq_meet rfl (by rfl) (fun K hK => ?_)
  go_simp
  go_at_call 30
  refine (E2.out _ b1).mono ?_
  rintro E w2 ⟨rfl, b2, a0, a1, a2, a3⟩
  clear E2
  go_wp2_with fail
  refine hK.out _ _ ⟨a0, a1, a2, a3⟩ ?_
  clear hK K
  try simp only [Act.put, List.setIfInBounds_toArray, List.set_cons_zero, List.set_cons_succ]
  refine seq_take (v := ?_) rfl rfl (by rfl) ?_ ?_
  rotate_left 1
  · intro w hS
    (try dsimp only at hS)
    go_simp
    all_goals with_reducible rfl
  simp only [Act.put, List.setIfInBounds_toArray, List.set_cons_zero, List.set_cons_succ]
  refine seq_take (v := ?_) rfl rfl (by rfl) ?_ ?_
  rotate_left 1
  · intro w hS
    (try dsimp only at hS)
    go_simp
    all_goals with_reducible rfl
  simp only [Act.put, List.setIfInBounds_toArray, List.set_cons_zero, List.set_cons_succ]
  refine seq_take (v := ?_) rfl rfl (by rfl) ?_ ?_
  rotate_left 1
  · intro w hS
    (try dsimp only at hS)
    go_simp
    all_goals with_reducible rfl
  simp only [Act.put, List.setIfInBounds_toArray, List.set_cons_zero, List.set_cons_succ]
  refine seq_take (v := ?_) rfl rfl (by rfl) ?_ ?_
  rotate_left 1
  · intro w hS
    (try dsimp only at hS)
    go_simp
    all_goals with_reducible rfl
  simp only [Act.put, List.setIfInBounds_toArray, List.set_cons_zero, List.set_cons_succ]
  refine seq_take (v := ?_) rfl rfl (by rfl) ?_ ?_
  rotate_left 1
  · intro w hS
    (try dsimp only at hS)
    go_simp
    all_goals with_reducible rfl
  simp only [Act.put, List.setIfInBounds_toArray, List.set_cons_zero, List.set_cons_succ]
  refine seq_take (v := ?_) rfl rfl (by rfl) ?_ ?_
  rotate_left 1
  · intro w hS
    (try dsimp only at hS)
    go_simp
    all_goals with_reducible rfl
  simp only [Act.put, List.setIfInBounds_toArray, List.set_cons_zero, List.set_cons_succ]
  refine seq_take (v := ?_) rfl rfl (by rfl) ?_ ?_
  rotate_left 1
  · intro w hS
    (try dsimp only at hS)
    go_simp
    all_goals with_reducible rfl
  simp only [Act.put, List.setIfInBounds_toArray, List.set_cons_zero, List.set_cons_succ]
  refine seq_take (v := ?_) rfl rfl (by rfl) ?_ ?_
  rotate_left 1
  · intro w hS
    (try dsimp only at hS)
    go_simp
    all_goals with_reducible rfl
  simp only [Act.put, List.setIfInBounds_toArray, List.set_cons_zero, List.set_cons_succ]
  refine seq_take (v := ?_) rfl rfl (by rfl) ?_ ?_
  rotate_left 1
  · intro w hS
    (try dsimp only at hS)
    go_simp
    all_goals with_reducible rfl
  simp only [Act.put, List.setIfInBounds_toArray, List.set_cons_zero, List.set_cons_succ]
  refine seq_take (v := ?_) rfl rfl (by rfl) ?_ ?_
  rotate_left 1
  · intro w hS
    (try dsimp only at hS)
    go_simp
    all_goals with_reducible rfl
  simp only [Act.put, List.setIfInBounds_toArray, List.set_cons_zero, List.set_cons_succ]
  refine seq_meet rfl (by rfl) (fun K hK => ?_)
  go_simp
  go_at_call 22
  refine (E3.out _ b2).mono ?_
  rintro E w3 ⟨rfl, b3, a0, a1, a2, a3⟩
  clear E3
  go_wp2_with fail
  refine hK.out _ _ ⟨a0, a1, a2, a3⟩ ?_
  clear hK K
  try simp only [Act.put, List.setIfInBounds_toArray, List.set_cons_zero, List.set_cons_succ]
  refine seq_meet rfl (by rfl) (fun K hK => ?_)
  go_simp
  go_at_call 29
  refine (E4.out _ b3).mono ?_
  rintro E w4 ⟨rfl, b4, a0, a1, a2, a3⟩
  clear E4
  go_wp2_with fail
  refine hK.out _ _ ⟨a0, a1, a2, a3⟩ ?_
  clear hK K
  try simp only [Act.put, List.setIfInBounds_toArray, List.set_cons_zero, List.set_cons_succ]
  refine seq_take (v := ?_) rfl rfl (by rfl) ?_ ?_
  rotate_left 1
  · intro w hS
    (try dsimp only at hS)
    go_simp
    all_goals with_reducible rfl
  simp only [Act.put, List.setIfInBounds_toArray, List.set_cons_zero, List.set_cons_succ]
  refine seq_take (v := ?_) rfl rfl (by rfl) ?_ ?_
  rotate_left 1
  · intro w hS
    (try dsimp only at hS)
    go_simp
    all_goals with_reducible rfl
  simp only [Act.put, List.setIfInBounds_toArray, List.set_cons_zero, List.set_cons_succ]
  refine seq_take (v := ?_) rfl rfl (by rfl) ?_ ?_
  rotate_left 1
  · intro w hS
    (try dsimp only at hS)
    go_simp
    all_goals with_reducible rfl
  simp only [Act.put, List.setIfInBounds_toArray, List.set_cons_zero, List.set_cons_succ]
  refine seq_take (v := ?_) rfl rfl (by rfl) ?_ ?_
  rotate_left 1
  · intro w hS
    (try dsimp only at hS)
    go_simp
    all_goals with_reducible rfl
  simp only [Act.put, List.setIfInBounds_toArray, List.set_cons_zero, List.set_cons_succ]
  refine seq_take (v := ?_) rfl rfl (by rfl) ?_ ?_
  rotate_left 1
  · intro w hS
    (try dsimp only at hS)
    go_simp
    all_goals with_reducible rfl
  simp only [Act.put, List.setIfInBounds_toArray, List.set_cons_zero, List.set_cons_succ]
  refine seq_take (v := ?_) rfl rfl (by rfl) ?_ ?_
  rotate_left 1
  · intro w hS
    (try dsimp only at hS)
    go_simp
    all_goals with_reducible rfl
  simp only [Act.put, List.setIfInBounds_toArray, List.set_cons_zero, List.set_cons_succ]
  refine seq_take (v := ?_) rfl rfl (by rfl) ?_ ?_
  rotate_left 1
  · intro w hS
    (try dsimp only at hS)
    go_simp
    all_goals with_reducible rfl
  simp only [Act.put, List.setIfInBounds_toArray, List.set_cons_zero, List.set_cons_succ]
  refine seq_take (v := ?_) rfl rfl (by rfl) ?_ ?_
  rotate_left 1
  · intro w hS
    (try dsimp only at hS)
    go_simp
    all_goals with_reducible rfl
  simp only [Act.put, List.setIfInBounds_toArray, List.set_cons_zero, List.set_cons_succ]
  refine seq_take (v := ?_) rfl rfl (by rfl) ?_ ?_
  rotate_left 1
  · intro w hS
    (try dsimp only at hS)
    go_simp
    all_goals with_reducible rfl
  simp only [Act.put, List.setIfInBounds_toArray, List.set_cons_zero, List.set_cons_succ]
  refine seq_take (v := ?_) rfl rfl (by rfl) ?_ ?_
  rotate_left 1
  · intro w hS
    (try dsimp only at hS)
    go_simp
    all_goals with_reducible rfl
  simp only [Act.put, List.setIfInBounds_toArray, List.set_cons_zero, List.set_cons_succ]
  refine seq_take (v := ?_) rfl rfl (by rfl) ?_ ?_
  rotate_left 1
  · intro w hS
    (try dsimp only at hS)
    go_simp
    all_goals with_reducible rfl
  simp only [Act.put, List.setIfInBounds_toArray, List.set_cons_zero, List.set_cons_succ]
  refine seq_meet rfl (by rfl) (fun K hK => ?_)
  go_simp
  go_at_call 18
  refine (E5.out _ b4).mono ?_
  rintro E w5 ⟨rfl, b5, a0, a1, a2, a3⟩
  clear E5
  go_wp2_with fail
  refine hK.out _ _ ⟨a0, a1, a2, a3⟩ ?_
  clear hK K
  try simp only [Act.put, List.setIfInBounds_toArray, List.set_cons_zero, List.set_cons_succ]
  refine seq_meet rfl (by rfl) (fun K hK => ?_)
  go_simp
  go_at_call 42
  refine (E6.out _ b5).mono ?_
  rintro E w6 ⟨rfl, b6, a0, a1, a2, a3⟩
  clear E6
  go_wp2_with fail
  refine hK.out _ _ ⟨a0, a1, a2, a3⟩ ?_
  clear hK K
  try simp only [Act.put, List.setIfInBounds_toArray, List.set_cons_zero, List.set_cons_succ]
  refine seq_take (v := ?_) rfl rfl (by rfl) ?_ ?_
  rotate_left 1
  · intro w hS
    (try dsimp only at hS)
    go_simp
    all_goals with_reducible rfl
  simp only [Act.put, List.setIfInBounds_toArray, List.set_cons_zero, List.set_cons_succ]
  refine seq_take (v := ?_) rfl rfl (by rfl) ?_ ?_
  rotate_left 1
  · intro w hS
    (try dsimp only at hS)
    go_simp
    all_goals with_reducible rfl
  simp only [Act.put, List.setIfInBounds_toArray, List.set_cons_zero, List.set_cons_succ]
  refine seq_take (v := ?_) rfl rfl (by rfl) ?_ ?_
  rotate_left 1
  · intro w hS
    (try dsimp only at hS)
    go_simp
    all_goals with_reducible rfl
  simp only [Act.put, List.setIfInBounds_toArray, List.set_cons_zero, List.set_cons_succ]
  refine seq_take (v := ?_) rfl rfl (by rfl) ?_ ?_
  rotate_left 1
  · intro w hS
    (try dsimp only at hS)
    go_simp
    all_goals with_reducible rfl
  simp only [Act.put, List.setIfInBounds_toArray, List.set_cons_zero, List.set_cons_succ]
  refine seq_take (v := ?_) rfl rfl (by rfl) ?_ ?_
  rotate_left 1
  · intro w hS
    (try dsimp only at hS)
    go_simp
    all_goals with_reducible rfl
  simp only [Act.put, List.setIfInBounds_toArray, List.set_cons_zero, List.set_cons_succ]
  refine seq_take (v := ?_) rfl rfl (by rfl) ?_ ?_
  rotate_left 1
  · intro w hS
    (try dsimp only at hS)
    go_simp
    all_goals with_reducible rfl
  simp only [Act.put, List.setIfInBounds_toArray, List.set_cons_zero, List.set_cons_succ]
  refine seq_take (v := ?_) rfl rfl (by rfl) ?_ ?_
  rotate_left 1
  · intro w hS
    (try dsimp only at hS)
    go_simp
    all_goals with_reducible rfl
  simp only [Act.put, List.setIfInBounds_toArray, List.set_cons_zero, List.set_cons_succ]
  refine seq_take (v := ?_) rfl rfl (by rfl) ?_ ?_
  rotate_left 1
  · intro w hS
    (try dsimp only at hS)
    go_simp
    all_goals with_reducible rfl
  simp only [Act.put, List.setIfInBounds_toArray, List.set_cons_zero, List.set_cons_succ]
  refine seq_take (v := ?_) rfl rfl (by rfl) ?_ ?_
  rotate_left 1
  · intro w hS
    (try dsimp only at hS)
    go_simp
    all_goals with_reducible rfl
  simp only [Act.put, List.setIfInBounds_toArray, List.set_cons_zero, List.set_cons_succ]
  refine seq_take (v := ?_) rfl rfl (by rfl) ?_ ?_
  rotate_left 1
  · intro w hS
    (try dsimp only at hS)
    go_simp
    all_goals with_reducible rfl
  simp only [Act.put, List.setIfInBounds_toArray, List.set_cons_zero, List.set_cons_succ]
  refine seq_take (v := ?_) rfl rfl (by rfl) ?_ ?_
  rotate_left 1
  · intro w hS
    (try dsimp only at hS)
    go_simp
    all_goals with_reducible rfl
  simp only [Act.put, List.setIfInBounds_toArray, List.set_cons_zero, List.set_cons_succ]
  refine seq_meet rfl (by rfl) (fun K hK => ?_)
  go_simp
  go_at_call 14
  refine (S1.out _ b6).mono ?_
  rintro E w7 ⟨vs1, rfl, ⟨sa1, sn1, sc1, rfl⟩, so1, sb1, b7, a0, a1, a2, a3⟩
  have so1 := hide so1
  clear S1
  go_wp2_with fail
  refine hK.out _ _ ⟨a0, a1, a2, a3⟩ ?_
  clear hK K
  try simp only [Act.put, List.setIfInBounds_toArray, List.set_cons_zero, List.set_cons_succ]
  refine seq_meet rfl (by rfl) (fun K hK => ?_)
  go_simp
  go_at_call 44
  refine (S2.out _ b7).mono ?_
  rintro E w8 ⟨vs2, rfl, ⟨sa2, sn2, sc2, rfl⟩, so2, sb2, b8, a0, a1, a2, a3⟩
  have so2 := hide (show RowS _ _ _ ∧ RowS _ _ _ from ⟨(ownS_below so1.out sb2).row, so2.row⟩)
  clear S2
  go_wp2_with fail
  refine hK.out _ _ ⟨a0, a1, a2, a3⟩ ?_
  clear hK K
  try simp only [Act.put, List.setIfInBounds_toArray, List.set_cons_zero, List.set_cons_succ]
  refine seq_meet rfl (by rfl) (fun K hK => ?_)
  go_simp
  go_at_call 43
  refine (S3.out _ _ _ b8 so2.out.1 so2.out.2).mono ?_
  rintro E w9 ⟨rfl, b9, a0, a1, a2, a3⟩
  clear S3 so1 so2
  go_wp2_with fail
  refine hK.out _ _ ⟨a0, a1, a2, a3⟩ ?_
  clear hK K
  try simp only [Act.put, List.setIfInBounds_toArray, List.set_cons_zero, List.set_cons_succ]
  refine seq_take (v := ?_) rfl rfl (by rfl) ?_ ?_
  rotate_left 1
  · intro w hS
    (try dsimp only at hS)
    go_simp
    all_goals with_reducible rfl
  simp only [Act.put, List.setIfInBounds_toArray, List.set_cons_zero, List.set_cons_succ]
  refine seq_take (v := ?_) rfl rfl (by rfl) ?_ ?_
  rotate_left 1
  · intro w hS
    (try dsimp only at hS)
    go_simp
    all_goals with_reducible rfl
  simp only [Act.put, List.setIfInBounds_toArray, List.set_cons_zero, List.set_cons_succ]
  refine seq_take (v := ?_) rfl rfl (by rfl) ?_ ?_
  rotate_left 1
  · intro w hS
    (try dsimp only at hS)
    go_simp
    all_goals with_reducible rfl
  simp only [Act.put, List.setIfInBounds_toArray, List.set_cons_zero, List.set_cons_succ]
  refine seq_take (v := ?_) rfl rfl (by rfl) ?_ ?_
  rotate_left 1
  · intro w hS
    (try dsimp only at hS)
    go_simp
    all_goals with_reducible rfl
  simp only [Act.put, List.setIfInBounds_toArray, List.set_cons_zero, List.set_cons_succ]
  refine seq_take (v := ?_) rfl rfl (by rfl) ?_ ?_
  rotate_left 1
  · intro w hS
    (try dsimp only at hS)
    go_simp
    all_goals with_reducible rfl
  simp only [Act.put, List.setIfInBounds_toArray, List.set_cons_zero, List.set_cons_succ]
  refine seq_take (v := ?_) rfl rfl (by rfl) ?_ ?_
  rotate_left 1
  · intro w hS
    (try dsimp only at hS)
    go_simp
    all_goals with_reducible rfl
  simp only [Act.put, List.setIfInBounds_toArray, List.set_cons_zero, List.set_cons_succ]
  refine seq_take (v := ?_) rfl rfl (by rfl) ?_ ?_
  rotate_left 1
  · intro w hS
    (try dsimp only at hS)
    go_simp
    all_goals with_reducible rfl
  simp only [Act.put, List.setIfInBounds_toArray, List.set_cons_zero, List.set_cons_succ]
  refine seq_take (v := ?_) rfl rfl (by rfl) ?_ ?_
  rotate_left 1
  · intro w hS
    (try dsimp only at hS)
    go_simp
    all_goals with_reducible rfl
  simp only [Act.put, List.setIfInBounds_toArray, List.set_cons_zero, List.set_cons_succ]
  refine seq_take (v := ?_) rfl rfl (by rfl) ?_ ?_
  rotate_left 1
  · intro w hS
    (try dsimp only at hS)
    go_simp
    all_goals with_reducible rfl
  simp only [Act.put, List.setIfInBounds_toArray, List.set_cons_zero, List.set_cons_succ]
  refine seq_take (v := ?_) rfl rfl (by rfl) ?_ ?_
  rotate_left 1
  · intro w hS
    (try dsimp only at hS)
    go_simp
    all_goals with_reducible rfl
  simp only [Act.put, List.setIfInBounds_toArray, List.set_cons_zero, List.set_cons_succ]
  refine seq_meet rfl (by rfl) (fun K hK => ?_)
  go_simp
  go_at_call 12
  refine (R1.out _ b9).mono ?_
  rintro E w10 ⟨vr1, rr1, rfl, ⟨ra1, rn1, rc1, rfl⟩, ro1, rp1, ri1, rb1, b10, a0, a1, a2, a3⟩
  have ro1 := hide (And.intro ro1 (And.intro rp1 ri1))
  clear R1 rp1 ri1
  go_wp2_with fail
  refine hK.out _ _ ⟨a0, a1, a2, a3⟩ ?_
  clear hK K
  try simp only [Act.put, List.setIfInBounds_toArray, List.set_cons_zero, List.set_cons_succ]
  refine seq_meet rfl (by rfl) (fun K hK => ?_)
  go_simp
  go_at_call 41
  refine (R2.out _ b10).mono ?_
  rintro E w11 ⟨vr2, rr2, rfl, ⟨ra2, rn2, rc2, rfl⟩, ro2, rp2, ri2, rb2, b11, a0, a1, a2, a3⟩
  have SCX := hide (R3.out _ _ _ _ _ _ _ b11 (ro1.out.1.below rb2) (ro1.out.2.1.below rb2) ro1.out.2.2 ro2 rp2 ri2)
  clear R2 R3 ro2 rp2 ri2 ro1
  go_wp2_with fail
  refine hK.out _ _ ⟨a0, a1, a2, a3⟩ ?_
  clear hK K
  try simp only [Act.put, List.setIfInBounds_toArray, List.set_cons_zero, List.set_cons_succ]
  refine seq_meet rfl (by rfl) (fun K hK => ?_)
  go_simp
  go_at_call 40
  refine SCX.out.mono ?_
  rintro E w12 ⟨rfl, b12, a0, a1, a2, a3⟩
  clear SCX
  go_wp2_with fail
  refine hK.out _ _ ⟨a0, a1, a2, a3⟩ ?_
  clear hK K
  try simp only [Act.put, List.setIfInBounds_toArray, List.set_cons_zero, List.set_cons_succ]
  refine seq_take (v := ?_) rfl rfl (by rfl) ?_ ?_
  rotate_left 1
  · intro w hS
    (try dsimp only at hS)
    go_simp
    all_goals with_reducible rfl
  simp only [Act.put, List.setIfInBounds_toArray, List.set_cons_zero, List.set_cons_succ]
  refine seq_take (v := ?_) rfl rfl (by rfl) ?_ ?_
  rotate_left 1
  · intro w hS
    (try dsimp only at hS)
    go_simp
    all_goals with_reducible rfl
  simp only [Act.put, List.setIfInBounds_toArray, List.set_cons_zero, List.set_cons_succ]
  refine seq_take (v := ?_) rfl rfl (by rfl) ?_ ?_
  rotate_left 1
  · intro w hS
    (try dsimp only at hS)
    go_simp
    all_goals with_reducible rfl
  simp only [Act.put, List.setIfInBounds_toArray, List.set_cons_zero, List.set_cons_succ]
  refine seq_take (v := ?_) rfl rfl (by rfl) ?_ ?_
  rotate_left 1
  · intro w hS
    (try dsimp only at hS)
    go_simp
    all_goals with_reducible rfl
  simp only [Act.put, List.setIfInBounds_toArray, List.set_cons_zero, List.set_cons_succ]
  refine seq_take (v := ?_) rfl rfl (by rfl) ?_ ?_
  rotate_left 1
  · intro w hS
    (try dsimp only at hS)
    go_simp
    all_goals with_reducible rfl
  simp only [Act.put, List.setIfInBounds_toArray, List.set_cons_zero, List.set_cons_succ]
  refine seq_take (v := ?_) rfl rfl (by rfl) ?_ ?_
  rotate_left 1
  · intro w hS
    (try dsimp only at hS)
    go_simp
    all_goals with_reducible rfl
  simp only [Act.put, List.setIfInBounds_toArray, List.set_cons_zero, List.set_cons_succ]
  refine seq_take (v := ?_) rfl rfl (by rfl) ?_ ?_
  rotate_left 1
  · intro w hS
    (try dsimp only at hS)
    go_simp
    all_goals with_reducible rfl
  simp only [Act.put, List.setIfInBounds_toArray, List.set_cons_zero, List.set_cons_succ]
  refine seq_take (v := ?_) rfl rfl (by rfl) ?_ ?_
  rotate_left 1
  · intro w hS
    (try dsimp only at hS)
    go_simp
    all_goals with_reducible rfl
  simp only [Act.put, List.setIfInBounds_toArray, List.set_cons_zero, List.set_cons_succ]
  refine seq_take (v := ?_) rfl rfl (by rfl) ?_ ?_
  rotate_left 1
  · intro w hS
    (try dsimp only at hS)
    go_simp
    all_goals with_reducible rfl
  simp only [Act.put, List.setIfInBounds_toArray, List.set_cons_zero, List.set_cons_succ]
  refine seq_take (v := ?_) rfl rfl (by rfl) ?_ ?_
  rotate_left 1
  · intro w hS
    (try dsimp only at hS)
    go_simp
    all_goals with_reducible rfl
  simp only [Act.put, List.setIfInBounds_toArray, List.set_cons_zero, List.set_cons_succ]
  refine seq_meet rfl (by rfl) (fun K hK => ?_)
  go_simp
  go_at_call 46
  refine (D1.out _ b12).mono ?_
  rintro E w13 ⟨vd1, rfl, ⟨da1, dn1, dc1, rfl⟩, do1, db1, b13, a0, a1, a2, a3⟩
  have do1 := hide do1
  clear D1
  go_wp2_with fail
  refine hK.out _ _ ⟨a0, a1, a2, a3⟩ ?_
  clear hK K
  try simp only [Act.put, List.setIfInBounds_toArray, List.set_cons_zero, List.set_cons_succ]
  refine seq_meet rfl (by rfl) (fun K hK => ?_)
  go_simp
  go_at_call 47
  refine (D2.out _ b13).mono ?_
  rintro E w14 ⟨vd2, rfl, ⟨da2, dn2, dc2, rfl⟩, do2, db2, b14, a0, a1, a2, a3⟩
  have SBX := hide (D3.out _ _ _ b14 (do1.out.is.below db2) do2.is)
  clear D2 D3 do2 do1
  go_wp2_with fail
  refine hK.out _ _ ⟨a0, a1, a2, a3⟩ ?_
  clear hK K
  try simp only [Act.put, List.setIfInBounds_toArray, List.set_cons_zero, List.set_cons_succ]
  refine seq_meet rfl (by rfl) (fun K hK => ?_)
  go_simp
  go_at_call 45
  refine SBX.out.mono ?_
  rintro E w15 ⟨rfl, b15, a0, a1, a2, a3⟩
  clear SBX
  go_wp2_with fail
  refine hK.out _ _ ⟨a0, a1, a2, a3⟩ ?_
  clear hK K
  try simp only [Act.put, List.setIfInBounds_toArray, List.set_cons_zero, List.set_cons_succ]
  refine seq_take (v := ?_) rfl rfl (by rfl) ?_ ?_
  rotate_left 1
  · intro w hS
    (try dsimp only at hS)
    go_simp
    all_goals with_reducible rfl
  simp only [Act.put, List.setIfInBounds_toArray, List.set_cons_zero, List.set_cons_succ]
  refine seq_take (v := ?_) rfl rfl (by rfl) ?_ ?_
  rotate_left 1
  · intro w hS
    (try dsimp only at hS)
    go_simp
    all_goals with_reducible rfl
  simp only [Act.put, List.setIfInBounds_toArray, List.set_cons_zero, List.set_cons_succ]
  refine seq_take (v := ?_) rfl rfl (by rfl) ?_ ?_
  rotate_left 1
  · intro w hS
    (try dsimp only at hS)
    go_simp
    all_goals with_reducible rfl
  simp only [Act.put, List.setIfInBounds_toArray, List.set_cons_zero, List.set_cons_succ]
  refine seq_take (v := ?_) rfl rfl (by rfl) ?_ ?_
  rotate_left 1
  · intro w hS
    (try dsimp only at hS)
    go_simp
    all_goals with_reducible rfl
  simp only [Act.put, List.setIfInBounds_toArray, List.set_cons_zero, List.set_cons_succ]
  refine seq_take (v := ?_) rfl rfl (by rfl) ?_ ?_
  rotate_left 1
  · intro w hS
    (try dsimp only at hS)
    go_simp
    all_goals with_reducible rfl
  simp only [Act.put, List.setIfInBounds_toArray, List.set_cons_zero, List.set_cons_succ]
  refine seq_take (v := ?_) rfl rfl (by rfl) ?_ ?_
  rotate_left 1
  · intro w hS
    (try dsimp only at hS)
    go_simp
    all_goals with_reducible rfl
  simp only [Act.put, List.setIfInBounds_toArray, List.set_cons_zero, List.set_cons_succ]
  refine seq_take (v := ?_) rfl rfl (by rfl) ?_ ?_
  rotate_left 1
  · intro w hS
    (try dsimp only at hS)
    go_simp
    all_goals with_reducible rfl
  simp only [Act.put, List.setIfInBounds_toArray, List.set_cons_zero, List.set_cons_succ]
  refine seq_take (v := ?_) rfl rfl (by rfl) ?_ ?_
  rotate_left 1
  · intro w hS
    (try dsimp only at hS)
    go_simp
    all_goals with_reducible rfl
  simp only [Act.put, List.setIfInBounds_toArray, List.set_cons_zero, List.set_cons_succ]
  refine seq_take (v := ?_) rfl rfl (by rfl) ?_ ?_
  rotate_left 1
  · intro w hS
    (try dsimp only at hS)
    go_simp
    all_goals with_reducible rfl
  simp only [Act.put, List.setIfInBounds_toArray, List.set_cons_zero, List.set_cons_succ]
  refine seq_take (v := ?_) rfl rfl (by rfl) ?_ ?_
  rotate_left 1
  · intro w hS
    (try dsimp only at hS)
    go_simp
    all_goals with_reducible rfl
  simp only [Act.put, List.setIfInBounds_toArray, List.set_cons_zero, List.set_cons_succ]
  refine seq_meet rfl (by rfl) (fun K hK => ?_)
  go_simp
  go_at_call 48
  refine (P1.out _ b15).mono ?_
  rintro E w16 ⟨rfl, b16, a0, a1, a2, a3⟩
  clear P1
  go_wp2_with fail
  refine hK.out _ _ ⟨a0, a1, a2, a3⟩ ?_
  clear hK K
  try simp only [Act.put, List.setIfInBounds_toArray, List.set_cons_zero, List.set_cons_succ]
  refine seq_meet rfl (by rfl) (fun K hK => ?_)
  go_simp
  go_at_call 49
  refine (P2.out _ b16).mono ?_
  rintro E w17 ⟨rfl, b17, a0, a1, a2, a3⟩
  clear P2
  go_wp2_with fail
  refine hK.out _ _ ⟨a0, a1, a2, a3⟩ ?_
  clear hK K
  try simp only [Act.put, List.setIfInBounds_toArray, List.set_cons_zero, List.set_cons_succ]
  refine seq_take (v := ?_) rfl rfl (by rfl) ?_ ?_
  rotate_left 1
  · intro w hS
    (try dsimp only at hS)
    go_simp
    all_goals with_reducible rfl
  simp only [Act.put, List.setIfInBounds_toArray, List.set_cons_zero, List.set_cons_succ]
  refine seq_take (v := ?_) rfl rfl (by rfl) ?_ ?_
  rotate_left 1
  · intro w hS
    (try dsimp only at hS)
    go_simp
    all_goals with_reducible rfl
  simp only [Act.put, List.setIfInBounds_toArray, List.set_cons_zero, List.set_cons_succ]
  refine seq_take (v := ?_) rfl rfl (by rfl) ?_ ?_
  rotate_left 1
  · intro w hS
    (try dsimp only at hS)
    go_simp
    all_goals with_reducible rfl
  simp only [Act.put, List.setIfInBounds_toArray, List.set_cons_zero, List.set_cons_succ]
  refine seq_take (v := ?_) rfl rfl (by rfl) ?_ ?_
  rotate_left 1
  · intro w hS
    (try dsimp only at hS)
    go_simp
    all_goals with_reducible rfl
  simp only [Act.put, List.setIfInBounds_toArray, List.set_cons_zero, List.set_cons_succ]
  refine seq_take (v := ?_) rfl rfl (by rfl) ?_ ?_
  rotate_left 1
  · intro w hS
    (try dsimp only at hS)
    go_simp
    all_goals with_reducible rfl
  simp only [Act.put, List.setIfInBounds_toArray, List.set_cons_zero, List.set_cons_succ]
  refine seq_take (v := ?_) rfl rfl (by rfl) ?_ ?_
  rotate_left 1
  · intro w hS
    (try dsimp only at hS)
    go_simp
    all_goals with_reducible rfl
  simp only [Act.put, List.setIfInBounds_toArray, List.set_cons_zero, List.set_cons_succ]
  refine seq_take (v := ?_) rfl rfl (by rfl) ?_ ?_
  rotate_left 1
  · intro w hS
    (try dsimp only at hS)
    go_simp
    all_goals with_reducible rfl
  simp only [Act.put, List.setIfInBounds_toArray, List.set_cons_zero, List.set_cons_succ]
  refine seq_take (v := ?_) rfl rfl (by rfl) ?_ ?_
  rotate_left 1
  · intro w hS
    (try dsimp only at hS)
    go_simp
    all_goals with_reducible rfl
  simp only [Act.put, List.setIfInBounds_toArray, List.set_cons_zero, List.set_cons_succ]
  refine seq_take (v := ?_) rfl rfl (by rfl) ?_ ?_
  rotate_left 1
  · intro w hS
    (try dsimp only at hS)
    go_simp
    all_goals with_reducible rfl
  simp only [Act.put, List.setIfInBounds_toArray, List.set_cons_zero, List.set_cons_succ]
  refine seq_take (v := ?_) rfl rfl (by rfl) ?_ ?_
  rotate_left 1
  · intro w hS
    (try dsimp only at hS)
    go_simp
    all_goals with_reducible rfl
  simp only [Act.put, List.setIfInBounds_toArray, List.set_cons_zero, List.set_cons_succ]
  refine seq_take (v := ?_) rfl rfl (by rfl) ?_ ?_
  rotate_left 1
  · intro w hS
    (try dsimp only at hS)
    go_simp
    all_goals with_reducible rfl
  simp only [Act.put, List.setIfInBounds_toArray, List.set_cons_zero, List.set_cons_succ]
  refine seq_meet rfl (by rfl) (fun K hK => ?_)
  go_simp
  go_at_call 50
  refine (P3.out _ b17).mono ?_
  rintro E w18 ⟨rfl, b18, a0, a1, a2, a3⟩
  clear P3
  go_wp2_with fail
  refine hK.out _ _ ⟨a0, a1, a2, a3⟩ ?_
  clear hK K
  try simp only [Act.put, List.setIfInBounds_toArray, List.set_cons_zero, List.set_cons_succ]
  refine seq_meet rfl (by rfl) (fun K hK => ?_)
  go_simp
  go_at_call 51
  refine (P4.out _ b18).mono ?_
  rintro E w19 ⟨rfl, b19, a0, a1, a2, a3⟩
  clear P4
  go_wp2_with fail
  refine hK.out _ _ ⟨a0, a1, a2, a3⟩ ?_
  clear hK K
  try simp only [Act.put, List.setIfInBounds_toArray, List.set_cons_zero, List.set_cons_succ]
  refine seq_take (v := ?_) rfl rfl (by rfl) ?_ ?_
  rotate_left 1
  · intro w hS
    (try dsimp only at hS)
    go_simp
    all_goals with_reducible rfl
  simp only [Act.put, List.setIfInBounds_toArray, List.set_cons_zero, List.set_cons_succ]
  refine seq_take (v := ?_) rfl rfl (by rfl) ?_ ?_
  rotate_left 1
  · intro w hS
    (try dsimp only at hS)
    go_simp
    all_goals with_reducible rfl
  simp only [Act.put, List.setIfInBounds_toArray, List.set_cons_zero, List.set_cons_succ]
  refine seq_take (v := ?_) rfl rfl (by rfl) ?_ ?_
  rotate_left 1
  · intro w hS
    (try dsimp only at hS)
    go_simp
    all_goals with_reducible rfl
  simp only [Act.put, List.setIfInBounds_toArray, List.set_cons_zero, List.set_cons_succ]
  refine seq_take (v := ?_) rfl rfl (by rfl) ?_ ?_
  rotate_left 1
  · intro w hS
    (try dsimp only at hS)
    go_simp
    all_goals with_reducible rfl
  simp only [Act.put, List.setIfInBounds_toArray, List.set_cons_zero, List.set_cons_succ]
  refine seq_take (v := ?_) rfl rfl (by rfl) ?_ ?_
  rotate_left 1
  · intro w hS
    (try dsimp only at hS)
    go_simp
    all_goals with_reducible rfl
  simp only [Act.put, List.setIfInBounds_toArray, List.set_cons_zero, List.set_cons_succ]
  refine seq_take (v := ?_) rfl rfl (by rfl) ?_ ?_
  rotate_left 1
  · intro w hS
    (try dsimp only at hS)
    go_simp
    all_goals with_reducible rfl
  simp only [Act.put, List.setIfInBounds_toArray, List.set_cons_zero, List.set_cons_succ]
  refine seq_take (v := ?_) rfl rfl (by rfl) ?_ ?_
  rotate_left 1
  · intro w hS
    (try dsimp only at hS)
    go_simp
    all_goals with_reducible rfl
  simp only [Act.put, List.setIfInBounds_toArray, List.set_cons_zero, List.set_cons_succ]
  refine seq_take (v := ?_) rfl rfl (by rfl) ?_ ?_
  rotate_left 1
  · intro w hS
    (try dsimp only at hS)
    go_simp
    all_goals with_reducible rfl
  simp only [Act.put, List.setIfInBounds_toArray, List.set_cons_zero, List.set_cons_succ]
  refine seq_take (v := ?_) rfl rfl (by rfl) ?_ ?_
  rotate_left 1
  · intro w hS
    (try dsimp only at hS)
    go_simp
    all_goals with_reducible rfl
  simp only [Act.put, List.setIfInBounds_toArray, List.set_cons_zero, List.set_cons_succ]
  refine seq_take (v := ?_) rfl rfl (by rfl) ?_ ?_
  rotate_left 1
  · intro w hS
    (try dsimp only at hS)
    go_simp
    all_goals with_reducible rfl
  simp only [Act.put, List.setIfInBounds_toArray, List.set_cons_zero, List.set_cons_succ]
  refine seq_take (v := ?_) rfl rfl (by rfl) ?_ ?_
  rotate_left 1
  · intro w hS
    (try dsimp only at hS)
    go_simp
    all_goals with_reducible rfl
  simp only [Act.put, List.setIfInBounds_toArray, List.set_cons_zero, List.set_cons_succ]
  refine seq_meet rfl (by rfl) (fun K hK => ?_)
  go_simp
  go_at_call 52
  refine (P5.out _ b19).mono ?_
  rintro E w20 ⟨rfl, b20, a0, a1, a2, a3⟩
  clear P5
  go_wp2_with fail
  refine hK.out _ _ ⟨a0, a1, a2, a3⟩ ?_
  clear hK K
  try simp only [Act.put, List.setIfInBounds_toArray, List.set_cons_zero, List.set_cons_succ]
  refine seq_meet rfl (by rfl) (fun K hK => ?_)
  go_simp
  go_at_call 53
  refine (P6.out _ b20).mono ?_
  rintro E w21 ⟨rfl, b21, a0, a1, a2, a3⟩
  clear P6
  go_wp2_with fail
  refine hK.out _ _ ⟨a0, a1, a2, a3⟩ ?_
  clear hK K
  try simp only [Act.put, List.setIfInBounds_toArray, List.set_cons_zero, List.set_cons_succ]
  refine seq_take (v := ?_) rfl rfl (by rfl) ?_ ?_
  rotate_left 1
  · intro w hS
    (try dsimp only at hS)
    go_simp
    all_goals with_reducible rfl
  simp only [Act.put, List.setIfInBounds_toArray, List.set_cons_zero, List.set_cons_succ]
  refine seq_take (v := ?_) rfl rfl (by rfl) ?_ ?_
  rotate_left 1
  · intro w hS
    (try dsimp only at hS)
    go_simp
    all_goals with_reducible rfl
  simp only [Act.put, List.setIfInBounds_toArray, List.set_cons_zero, List.set_cons_succ]
  refine seq_take (v := ?_) rfl rfl (by rfl) ?_ ?_
  rotate_left 1
  · intro w hS
    (try dsimp only at hS)
    go_simp
    all_goals with_reducible rfl
  simp only [Act.put, List.setIfInBounds_toArray, List.set_cons_zero, List.set_cons_succ]
  unfold seqW
  go_wp2
  go_ret
  exact ⟨rfl, b21⟩

end Go.Proofs.YtmkpaedemjiboaaGreat
