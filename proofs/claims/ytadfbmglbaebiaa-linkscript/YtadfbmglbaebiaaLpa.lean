/- A link of the program's and one of the document's beside one another. -/
import Derived.Test.YtadfbmglbaebiaaLrc
import Derived.Test.YtadfbmglbaebiaaLo
namespace Go.Proofs.Ytadfbmglbaebiaa
open Go.RowKit Go.Shelf
set_option linter.unusedVariables false

/-- Two links, apart from one another and from the blocks of Pr. -/
structure PF (base p q : Nat) (Pr : Nat → Prop) (w0 w : World) (sa sb : Lm.Ls) (G H : Nat → Prop) : Prop where
  a : Lk false p G w sa
  b : Lk true q H w sb
  dis : ∀ g, G g → ¬ H g
  ga : ∀ g, G g → base ≤ g
  gb : ∀ g, H g → base ≤ g
  pa : ∀ g, Pr g → ¬ G g
  pb : ∀ g, Pr g → ¬ H g
  lt : ∀ g, Pr g → g < w.heap.size
  bel : Below base w0 w
  hb : base = w0.heap.size

def PM (base p q : Nat) (Pr : Nat → Prop) (w0 w : World) (sa sb : Lm.Ls) : Prop := ∃ G H, PF base p q Pr w0 w sa sb G H

section
variable {base p q : Nat} {Pr Pr' : Nat → Prop} {w0 w w' : World} {sa sb s' : Lm.Ls} {G H : Nat → Prop}

theorem PF.size (h : PF base p q Pr w0 w sa sb G H) : base ≤ w.heap.size := by
  have := h.bel.size
  have := h.hb
  omega

theorem PM.below (h : PM base p q Pr w0 w sa sb) (hb : Below w.heap.size w w') : PM base p q Pr w0 w' sa sb := by
  obtain ⟨G, H, h⟩ := h
  exact ⟨G, H, h.a.below hb, h.b.below hb, h.dis, h.ga, h.gb, h.pa, h.pb, fun g hg => Nat.lt_of_lt_of_le (h.lt g hg) hb.size, h.bel.trans (hb.mono h.size), h.hb⟩

/-- New blocks beside them. -/
theorem PM.beside (h : PM base p q Pr w0 w sa sb) (hb : Below w.heap.size w w') (hp : ∀ g, Pr' g → Pr g ∨ w.heap.size ≤ g) (hl : ∀ g, Pr' g → g < w'.heap.size) : PM base p q Pr' w0 w' sa sb := by
  obtain ⟨G, H, h⟩ := h
  refine ⟨G, H, h.a.below hb, h.b.below hb, h.dis, h.ga, h.gb, fun g hg hG => ?_, fun g hg hH => ?_, hl, h.bel.trans (hb.mono h.size), h.hb⟩
  · rcases hp g hg with h1 | h1
    · exact h.pa g h1 hG
    · have := h.a.lt g hG; omega
  · rcases hp g hg with h1 | h1
    · exact h.pb g h1 hH
    · have := h.b.lt g hH; omega

theorem PF.stepA (h : PF base p q Pr w0 w sa sb G H) (s : LStep false p G w w' s') : PM base p q Pr w0 w' s' sb ∧ (∀ g, g < w.heap.size → ¬ G g → w'.heap[g]? = w.heap[g]?) ∧ Below base w w' := by
  obtain ⟨G', k1, k2, k3⟩ := s
  have nn : ∀ g, g < w.heap.size → ¬ G g → ¬ G' g := fun g hg hn hF => by
    rcases k3 g hF with h1 | h1
    · exact hn h1
    · omega
  have bb := k2.below h.ga h.size
  refine ⟨⟨G', H, k1, h.b.out k2 fun g hH hG => h.dis g hG hH, fun g hG hH => ?_, fun g hg => ?_, h.gb, fun g hg => nn g (h.lt g hg) (h.pa g hg), h.pb, fun g hg => Nat.lt_of_lt_of_le (h.lt g hg) k2.size, h.bel.trans bb, h.hb⟩, fun g hg hn => k2.block g hg hn, bb⟩
  · rcases k3 g hG with h1 | h1
    · exact h.dis g h1 hH
    · have := h.b.lt g hH; omega
  · rcases k3 g hg with h1 | h1
    · exact h.ga g h1
    · have := h.size; omega

theorem PF.stepB (h : PF base p q Pr w0 w sa sb G H) (s : LStep true q H w w' s') : PM base p q Pr w0 w' sa s' ∧ (∀ g, g < w.heap.size → ¬ H g → w'.heap[g]? = w.heap[g]?) ∧ Below base w w' := by
  obtain ⟨H', k1, k2, k3⟩ := s
  have nn : ∀ g, g < w.heap.size → ¬ H g → ¬ H' g := fun g hg hn hF => by
    rcases k3 g hF with h1 | h1
    · exact hn h1
    · omega
  have bb := k2.below h.gb h.size
  refine ⟨⟨G, H', h.a.out k2 fun g hG hH => h.dis g hG hH, k1, fun g hG hH => ?_, h.ga, fun g hg => ?_, h.pa, fun g hg => nn g (h.lt g hg) (h.pb g hg), fun g hg => Nat.lt_of_lt_of_le (h.lt g hg) k2.size, h.bel.trans bb, h.hb⟩, fun g hg hn => k2.block g hg hn, bb⟩
  · rcases k3 g hH with h1 | h1
    · exact h.dis g hG h1
    · have := h.a.lt g hG; omega
  · rcases k3 g hg with h1 | h1
    · exact h.gb g h1
    · have := h.size; omega

/-- The same, the document's blocks being known. -/
theorem PF.stepA2 (h : PF base p q Pr w0 w sa sb G H) (s : LStep false p G w w' s') : (∃ G', PF base p q Pr w0 w' s' sb G' H) ∧ (∀ g, Pr g → w'.heap[g]? = w.heap[g]?) ∧ Below base w w' := by
  obtain ⟨G', k1, k2, k3⟩ := s
  have nn : ∀ g, g < w.heap.size → ¬ G g → ¬ G' g := fun g hg hn hF => by
    rcases k3 g hF with h1 | h1
    · exact hn h1
    · omega
  have bb := k2.below h.ga h.size
  refine ⟨⟨G', k1, h.b.out k2 fun g hH hG => h.dis g hG hH, fun g hG hH => ?_, fun g hg => ?_, h.gb, fun g hg => nn g (h.lt g hg) (h.pa g hg), h.pb, fun g hg => Nat.lt_of_lt_of_le (h.lt g hg) k2.size, h.bel.trans bb, h.hb⟩, fun g hg => k2.block g (h.lt g hg) (h.pa g hg), bb⟩
  · rcases k3 g hG with h1 | h1
    · exact h.dis g h1 hH
    · have := h.b.lt g hH; omega
  · rcases k3 g hg with h1 | h1
    · exact h.ga g h1
    · have := h.size; omega

theorem PF.beside (h : PF base p q Pr w0 w sa sb G H) (hb : Below w.heap.size w w') (hp : ∀ g, Pr' g → Pr g ∨ w.heap.size ≤ g) (hl : ∀ g, Pr' g → g < w'.heap.size) : PF base p q Pr' w0 w' sa sb G H := by
  refine ⟨h.a.below hb, h.b.below hb, h.dis, h.ga, h.gb, fun g hg hG => ?_, fun g hg hH => ?_, hl, h.bel.trans (hb.mono h.size), h.hb⟩
  · rcases hp g hg with h1 | h1
    · exact h.pa g h1 hG
    · have := h.a.lt g hG; omega
  · rcases hp g hg with h1 | h1
    · exact h.pb g h1 hH
    · have := h.b.lt g hH; omega

/-- What a call of the program's link leaves. -/
theorem PM.callA (h : PM base p q Pr w0 w sa sb) {f : FuncId} {args : Array Value} {v : Value} (hc : ∀ G, Lk false p G w sa → Calls Try.prog f args w fun E w' => E = .returned v ∧ LStep false p G w w' s') :
    Calls Try.prog f args w fun E w' => E = .returned v ∧ PM base p q Pr w0 w' s' sb ∧ (∀ g, Pr g → w'.heap[g]? = w.heap[g]?) ∧ Below base w w' := by
  obtain ⟨G, H, h⟩ := h
  refine (hc G h.a).mono ?_
  rintro E w' ⟨rfl, s⟩
  obtain ⟨m, k, bb⟩ := h.stepA s
  exact ⟨rfl, m, fun g hg => k g (h.lt g hg) (h.pa g hg), bb⟩

theorem PM.callB (h : PM base p q Pr w0 w sa sb) {f : FuncId} {args : Array Value} {v : Value} (hc : ∀ H, Lk true q H w sb → Calls Try.prog f args w fun E w' => E = .returned v ∧ LStep true q H w w' s') :
    Calls Try.prog f args w fun E w' => E = .returned v ∧ PM base p q Pr w0 w' sa s' ∧ (∀ g, Pr g → w'.heap[g]? = w.heap[g]?) ∧ Below base w w' := by
  obtain ⟨G, H, h⟩ := h
  refine (hc H h.b).mono ?_
  rintro E w' ⟨rfl, s⟩
  obtain ⟨m, k, bb⟩ := h.stepB s
  exact ⟨rfl, m, fun g hg => k g (h.lt g hg) (h.pb g hg), bb⟩
end

theorem Try.enters13 : ∀ args w, (callFunc 13 args).run Try.prog w = .ok (.enter 13 args) w := enters_of Try.func13 (by kernel_rfl) rfl

theorem Try.enters36 : ∀ args w, (callFunc 36 args).run Try.prog w = .ok (.enter 36 args) w := enters_of Try.func36 (by kernel_rfl) rfl

theorem del_bs {st : Lm.Ls} (h : Lm.Ok st) (n : Int) : (Lm.del st n).1.1.bs.length ≤ 40 := by
  unfold Lm.del
  cases hx : st.fl[Lm.pl st.fl n]? with
  | none => simp [Lm.zero]
  | some x => exact (h.each x (List.mem_of_getElem? hx)).2.2.2

set_option maxRecDepth 100000 in
set_option maxHeartbeats 8000000 in
theorem call_any (base p q : Nat) (Pr : Nat → Prop) (w0 w : World) (st : Lm.Ls) (a : Av) (vb : Value) (h : PM base p q Pr w0 w st st) (hok : Lm.Ok st) (hlast : st.last < 9223372036854775807) (hk : I64 a.k) (hav : Is .u8 w a.v a.bs) (hva : 0 < a.bs.length → ∀ b, a.v.ownBlock = some b → b < base) (hvb : Is .u8 w vb a.bs) (hbl : a.bs.length ≤ 40) (hPb : 0 < a.bs.length → ∀ b, vb.ownBlock = some b → Pr b) :
    Calls Try.prog 17 #[.pointer (some ⟨p, 0, none⟩), .pointer (some ⟨q, 0, none⟩), .agg #[.int .i64 a.k, .int .i64 a.n, a.v], vb] w fun E w' => E = .returned (.bool true) ∧ ∃ st', PM base p q Pr w0 w' st' st' ∧ Lm.Ok st' ∧ st'.last ≤ st.last + 1 ∧ (∀ g, Pr g → w'.heap[g]? = w.heap[g]?) ∧ Below base w w' := by
  obtain ⟨w1, hw1, sz1, b1, B1⟩ := blk_step w #[.int .i64 a.k, .int .i64 a.n, a.v] 41
  obtain ⟨av, an, ac, hf⟩ := hav.form
  obtain ⟨bv, bn, bc, hfb⟩ := hvb.form
  have hPl : ∀ g, Pr g → g < w.heap.size := by obtain ⟨G, H, h⟩ := h; exact h.lt
  have hbs : base ≤ w.heap.size := by obtain ⟨G, H, h⟩ := h; exact h.size
  have M1 := h.beside (Pr' := fun g => Pr g ∨ g = w.heap.size) b1 (fun g hg => by
    rcases hg with hg | hg
    · exact .inl hg
    · exact .inr (by omega)) (fun g hg => by
    rcases hg with hg | hg
    · have := hPl g hg; omega
    · omega)
  have PA := hide (pickx_any a.k 4 w1 (by omega) (by omega) hk)
  obtain ⟨q0, q1⟩ := pk_lt a.k 4 (by omega)
  generalize pk a.k 4 = r at PA q0 q1
  have c0 := blk_cell B1 0 rfl
  have c1 := blk_cell B1 1 rfl
  have c2 := blk_cell B1 2 rfl
  have HM := hide M1
  have HB1 := hide B1
  have isa := hav.below b1
  have isb := hvb.below b1
  have HA := hide isa
  have HBB := hide isb
  have HF := hide hf
  have HFB := hide hfb
  have STAY : Hid (∀ (v : Value) (zs : List Int) (W W' : World), Is .u8 W v zs → (0 < zs.length → ∀ b, v.ownBlock = some b → b < base) → Below base W W' → Is .u8 W' v zs) := hide fun v zs W W' h1 h2 hb => by
    by_cases h0 : 0 < zs.length
    · exact h1.agree fun g hg => hb.block g (h2 h0 g hg)
    · refine ⟨h1.1, ?_⟩
      rcases h1.2 with h3 | ⟨ad, cp, h3, h4, h5, _⟩
      · exact .inl h3
      · exact .inr ⟨ad, cp, h3, h4, h5, fun i hi => by omega⟩
  rw [hf] at hw1 c2 ⊢
  rw [hfb]
  clear h B1 M1 isa isb hav hvb hf hfb
  go_enter Try.func17, Try.ntmps17
  go_wp2_with fail
  refine PA.out.mono ?_
  rintro E V' ⟨rfl, rfl⟩
  rcases (show r = 0 ∨ r = 1 ∨ r = 2 ∨ r = 3 by omega) with rfl | rfl | rfl | rfl
  · obtain ⟨⟨⟨y1, y2⟩, y3⟩, hy⟩ : ∃ y, Lm.send st a.n a.bs = y := ⟨_, rfl⟩
    have hly := Lm.last_send st a.n a.bs
    have hoy := @Lm.ok_send st hok a.n a.bs hbl
    rw [hy] at hly hoy
    have SA := hide (HM.out.callA (f := 10) (args := #[.pointer (some ⟨p, 0, none⟩), .int .i64 a.n, .slice bv bn bc]) (v := .tuple #[.int .i64 y1, .int .i64 y2]) (s' := y3) fun G hG => by
      have := send_any p G w1 st a.n vb a.bs hG HBB.out hbl hlast
      rw [HFB.out, hy] at this
      exact this)
    have SB : Hid (∀ w2, PM base p q (fun g => Pr g ∨ g = w.heap.size) w0 w2 y3 st → Below base w1 w2 → Calls Try.prog 33 #[.pointer (some ⟨q, 0, none⟩), .int .i64 a.n, .slice av an ac] w2 fun E w' => E = .returned (.tuple #[.int .i64 y1, .int .i64 y2]) ∧ PM base p q (fun g => Pr g ∨ g = w.heap.size) w0 w' y3 y3 ∧ (∀ g, (Pr g ∨ g = w.heap.size) → w'.heap[g]? = w2.heap[g]?) ∧ Below base w2 w') := hide fun w2 m2 b2 => m2.callB fun H hH => by
      have := sendR_any q H w2 st a.n a.v a.bs hH (STAY.out _ _ _ _ HA.out hva b2) hbl hlast
      rw [HF.out, hy] at this
      exact this
    have HL := hide hly
    have HO := hide hoy
    clear hy hly hoy
    go_wp2_with fail
    refine SA.out.mono ?_
    rintro E w2 ⟨rfl, m2, k2, b2⟩
    have B2 := (k2 w.heap.size (.inr rfl)).trans HB1.out
    rw [HF.out] at B2
    have d1 := blk_cell B2 1 rfl
    have d2 := blk_cell B2 2 rfl
    have X2 := hide (SB.out w2 m2 b2)
    have K2 := hide k2
    clear SA SB B2 m2 c0 c1 c2 k2
    go_wp2_with fail
    refine X2.out.mono ?_
    rintro E w3 ⟨rfl, m3, k3, b3⟩
    have J : Hid (∃ st', PM base p q Pr w0 w3 st' st' ∧ Lm.Ok st' ∧ st'.last ≤ st.last + 1 ∧ (∀ g, Pr g → w3.heap[g]? = w.heap[g]?) ∧ Below base w w3) := hide ⟨y3, m3.beside (Below.refl _ _) (fun g hg => .inl (.inl hg)) (fun g hg => by have := hPl g hg; have := (b1.mono hbs).trans (b2.trans b3); have := this.size; omega), HO.out, HL.out, fun g hg => (k3 g (.inl hg)).trans ((K2.out g (.inl hg)).trans (b1.block g (hPl g hg))), (b1.mono hbs).trans (b2.trans b3)⟩
    clear m3 k3 X2 d1 d2
    go_wp2
    go_ret
    exact ⟨rfl, J.out⟩
  · obtain ⟨⟨⟨⟨xn, xt, xb⟩, y2⟩, y3⟩, hy⟩ : ∃ y, Lm.del st a.n = y := ⟨_, rfl⟩
    have hly := Lm.last_del st a.n
    have hoy := Lm.ok_del hok a.n
    have hxb := del_bs hok a.n
    rw [hy] at hly hoy hxb
    have SA : Hid (Calls Try.prog 12 #[.pointer (some ⟨p, 0, none⟩), .int .i64 a.n] w1 fun E w2 => ∃ vx, E = .returned (.tuple #[.agg #[.int .i64 xn, .int .i64 xt, vx], .int .i64 y2]) ∧ (∃ a n c, vx = .slice a n c) ∧ ∃ H, Hid (∃ G, PF base p q (fun g => Pr g ∨ g = w.heap.size) w0 w2 y3 st G H) ∧ Hid (Is .u8 w2 vx xb ∧ ∀ b, vx.ownBlock = some b → b < w2.heap.size ∧ ¬ H b) ∧ Hid (∀ g, (Pr g ∨ g = w.heap.size) → w2.heap[g]? = w1.heap[g]?) ∧ Below base w1 w2) := hide (by
      obtain ⟨G, H, hP⟩ := HM.out
      have := deliver_any p G w1 st a.n hP.a hok.len
      rw [hy] at this
      refine this.mono ?_
      rintro E w2 ⟨vx, rfl, s, by2⟩
      obtain ⟨g1, g2, g3⟩ := hP.stepA2 s
      refine ⟨vx, rfl, by2.1.form, H, hide g1, hide ⟨by2.1, fun b hb => ?_⟩, hide g2, g3⟩
      obtain ⟨hG, cs, fr, hc⟩ := by2.2 b hb
      exact ⟨blk_lt hc, hP.dis b hG⟩)
    have SB : Hid (∀ (X : Nat) (H : Nat → Prop) (w3 : World), (∃ G, PF base p q (fun g => Pr g ∨ g = w.heap.size ∨ g = X) w0 w3 y3 st G H) → Calls Try.prog 34 #[.pointer (some ⟨q, 0, none⟩), .int .i64 a.n] w3 fun E w' => ∃ vy, E = .returned (.tuple #[.agg #[.int .i64 xn, .int .i64 xt, vy], .int .i64 y2]) ∧ (∃ a n c, vy = .slice a n c) ∧ Hid (PM base p q (fun g => Pr g ∨ g = w.heap.size ∨ g = X) w0 w' y3 y3) ∧ Hid (Is .u8 w' vy xb ∧ ∀ v zs, Is .u8 w3 v zs → (∀ b, v.ownBlock = some b → b < w3.heap.size ∧ ¬ H b) → Is .u8 w' v zs) ∧ Hid (∀ g, (Pr g ∨ g = w.heap.size ∨ g = X) → w'.heap[g]? = w3.heap[g]?) ∧ Below base w3 w') := hide fun X H w3 hP => by
      obtain ⟨G, hP⟩ := hP
      have := deliverR_any q H w3 st a.n hP.b hok.len
      rw [hy] at this
      refine this.mono ?_
      rintro E w' ⟨vy, rfl, s, by2⟩
      obtain ⟨g1, g2, g3⟩ := hP.stepB s
      exact ⟨vy, rfl, by2.1.form, hide g1, hide ⟨by2.1, fun v zs h1 h2 => h1.agree fun b hb => g2 b (h2 b hb).1 (h2 b hb).2⟩, hide fun g hg => g2 g (hP.lt g hg) (hP.pb g hg), g3⟩
    have HL := hide hly
    have HO := hide hoy
    have HXB := hide hxb
    clear hy hly hoy hxb
    go_wp2_with fail
    refine SA.out.mono ?_
    rintro E w2 ⟨vx, rfl, ⟨xa, xm, xc, rfl⟩, H, P2, I2, K2, b2⟩
    obtain ⟨w3, hw3, hw3', sz3, b3, B3, u0, u1, u2⟩ := new_three w2 31 (.int .i64 0) (.int .i64 0) (.slice none 0 0) (.int .i64 xn) (.int .i64 xt) (.slice xa xm xc)
    have z2 : w.heap.size < w2.heap.size := blk_lt ((K2.out w.heap.size (.inr rfl)).trans HB1.out)
    have A3 := (b3.block w.heap.size z2).trans ((K2.out w.heap.size (.inr rfl)).trans HB1.out)
    have d1 := blk_cell A3 1 rfl
    have X3 := hide (SB.out w2.heap.size H w3 (by
      obtain ⟨G, hP⟩ := P2.out
      exact ⟨G, hP.beside b3 (fun g hg => by rcases hg with hg | hg | hg; exact .inl (.inl hg); exact .inl (.inr hg); exact .inr (by omega)) (fun g hg => by rcases hg with hg | hg | hg; (have := hP.lt g (.inl hg); omega); omega; omega)⟩))
    have HB3 := hide B3
    have b23 : Below base w2 w3 := b3.mono (by have := (b1.mono hbs).trans b2; have := this.size; omega)
    clear SA SB B3 A3 c0 c1 c2
    go_wp2_with fail
    refine X3.out.mono ?_
    rintro E w4 ⟨vy, rfl, ⟨ya, ym, yc, rfl⟩, M4, I4, K4, b4⟩
    obtain ⟨w5, hw5, hw5', sz5, b5, B5, v0, v1, v2⟩ := new_three w4 31 (.int .i64 0) (.int .i64 0) (.slice none 0 0) (.int .i64 xn) (.int .i64 xt) (.slice ya ym yc)
    have X4 := (K4.out w2.heap.size (.inr (.inr rfl))).trans HB3.out
    have X5 := (b5.block w2.heap.size (blk_lt X4)).trans X4
    have t0 := blk_cell X5 0 rfl
    have t1 := blk_cell X5 1 rfl
    have t2 := blk_cell X5 2 rfl
    obtain ⟨w6, hw6, sz6, b6, row6⟩ := rows_step letc 3 letc_len 31 w5 #[.int .i64 xn, .int .i64 xt, .slice xa xm xc] 1 [⟨xn, xt, .slice xa xm xc, xb⟩] rfl rfl (by simp [maxLen])
    have Y6 := (b6.block w4.heap.size (by omega)).trans B5
    have s0 := blk_cell Y6 0 rfl
    have s1 := blk_cell Y6 1 rfl
    have s2 := blk_cell Y6 2 rfl
    obtain ⟨w7, hw7, sz7, b7, row7⟩ := rows_step letc 3 letc_len 31 w6 #[.int .i64 xn, .int .i64 xt, .slice ya ym yc] 1 [⟨xn, xt, .slice ya ym yc, xb⟩] rfl rfl (by simp [maxLen])
    have b47 : Below w4.heap.size w4 w7 := (b5.trans (b6.mono (by omega))).trans (b7.mono (by omega))
    have isx : Is .u8 w7 (.slice xa xm xc) xb := by
      obtain ⟨i1, i2⟩ := I2.out
      refine (I4.out.2 _ _ (i1.below b3) fun b hb => ⟨by have := (i2 b hb).1; omega, (i2 b hb).2⟩).below b47
    have isy : Is .u8 w7 (.slice ya ym yc) xb := I4.out.1.below b47
    have FL := hide (flights_any _ _ [⟨xn, xt, .slice xa xm xc, xb⟩] [⟨xn, xt, .slice ya ym yc, xb⟩] w7 ⟨row6.row.below b7, fun x hx => by simp at hx; subst hx; exact isx⟩ ⟨row7.row, fun x hx => by simp at hx; subst hx; exact isy⟩ rfl (fun x hx => by simp at hx; subst hx; exact HXB.out) (by simp))
    have bw4 : Below base w w4 := (b1.mono hbs).trans (b2.trans (b23.trans b4))
    have J : Hid (∀ W, Below w4.heap.size w4 W → ∃ st', PM base p q Pr w0 W st' st' ∧ Lm.Ok st' ∧ st'.last ≤ st.last + 1 ∧ (∀ g, Pr g → W.heap[g]? = w.heap[g]?) ∧ Below base w W) := hide fun W hW => by
      have hs4 := bw4.size
      refine ⟨y3, M4.out.beside hW (fun g hg => .inl (.inl hg)) (fun g hg => by have := hPl g hg; have := hW.size; omega), HO.out, by have := HL.out; omega, fun g hg => ?_, bw4.trans (hW.mono (by omega))⟩
      have hg0 := hPl g hg
      exact (hW.block g (by omega)).trans ((K4.out g (.inl hg)).trans ((b3.block g (by omega)).trans ((K2.out g (.inl hg)).trans (b1.block g hg0))))
    have HB47 := hide b47
    clear X3 B5 X4 X5 Y6 row6 row7 isx isy I2 I4 K2 K4 M4 P2 u0 u1 u2 b5 b6 b7 sz5 sz6 sz7 d1
    go_wp2_with fail
    refine FL.out.mono ?_
    rintro E w8 ⟨rfl, m, rfl⟩
    have J8 := hide (J.out _ (below_drewN HB47.out m))
    clear J
    go_wp2
    go_ret
    exact ⟨rfl, J8.out⟩
  · obtain ⟨⟨⟨y1, y2⟩, y3⟩, hy⟩ : ∃ y, Lm.twi st a.n = y := ⟨_, rfl⟩
    have hly := Lm.last_twi st a.n
    have hoy := Lm.ok_twi hok a.n
    rw [hy] at hly hoy
    have SA := hide (HM.out.callA (f := 11) (args := #[.pointer (some ⟨p, 0, none⟩), .int .i64 a.n]) (v := .tuple #[.int .i64 y1, .int .i64 y2]) (s' := y3) fun G hG => by
      have := twice_any p G w1 st a.n hG hok hlast
      rw [hy] at this
      exact this)
    have SB : Hid (∀ w2, PM base p q (fun g => Pr g ∨ g = w.heap.size) w0 w2 y3 st → Calls Try.prog 35 #[.pointer (some ⟨q, 0, none⟩), .int .i64 a.n] w2 fun E w' => E = .returned (.tuple #[.int .i64 y1, .int .i64 y2]) ∧ PM base p q (fun g => Pr g ∨ g = w.heap.size) w0 w' y3 y3 ∧ (∀ g, (Pr g ∨ g = w.heap.size) → w'.heap[g]? = w2.heap[g]?) ∧ Below base w2 w') := hide fun w2 m2 => m2.callB fun H hH => by
      have := twiceR_any q H w2 st a.n hH hok hlast
      rw [hy] at this
      exact this
    have HL := hide hly
    have HO := hide hoy
    clear hy hly hoy
    go_wp2_with fail
    refine SA.out.mono ?_
    rintro E w2 ⟨rfl, m2, k2, b2⟩
    have B2 := (k2 w.heap.size (.inr rfl)).trans HB1.out
    have d1 := blk_cell B2 1 rfl
    have X2 := hide (SB.out w2 m2)
    have K2 := hide k2
    clear SA SB B2 m2 c0 c1 c2 k2
    go_wp2_with fail
    refine X2.out.mono ?_
    rintro E w3 ⟨rfl, m3, k3, b3⟩
    have J : Hid (∃ st', PM base p q Pr w0 w3 st' st' ∧ Lm.Ok st' ∧ st'.last ≤ st.last + 1 ∧ (∀ g, Pr g → w3.heap[g]? = w.heap[g]?) ∧ Below base w w3) := hide ⟨y3, m3.beside (Below.refl _ _) (fun g hg => .inl (.inl hg)) (fun g hg => by have := hPl g hg; have := (b1.mono hbs).trans (b2.trans b3); have := this.size; omega), HO.out, HL.out, fun g hg => (k3 g (.inl hg)).trans ((K2.out g (.inl hg)).trans (b1.block g (hPl g hg))), (b1.mono hbs).trans (b2.trans b3)⟩
    clear m3 k3 X2 d1
    go_wp2
    go_ret
    exact ⟨rfl, J.out⟩
  · obtain ⟨⟨⟨x, y2⟩, y3⟩, hy⟩ : ∃ y, Lm.del st a.n = y := ⟨_, rfl⟩
    have hly := Lm.last_del st a.n
    have hoy := Lm.ok_del hok a.n
    rw [hy] at hly hoy
    have bd1 : Below w1.heap.size w1 w1.drew := below_drewN (Below.refl _ _) 1
    have hbs1 : base ≤ w1.heap.size := by omega
    have SA : Hid (Calls Try.prog 13 #[.pointer (some ⟨p, 0, none⟩), .int .i64 a.n] w1.drew fun E w2 => ∃ u, E = .returned u ∧ (u = .int .i64 y2 ∧ w2.cell? ⟨w.heap.size, 1, none⟩ = some (.int .i64 a.n) ∧ Hid (PM base p q (fun g => Pr g ∨ g = w.heap.size) w0 w2 y3 st ∧ (∀ g, (Pr g ∨ g = w.heap.size) → w2.heap[g]? = w1.heap[g]?) ∧ Below base w1 w2))) := hide (by
      refine ((HM.out.below bd1).callA (f := 13) (args := #[.pointer (some ⟨p, 0, none⟩), .int .i64 a.n]) (v := .int .i64 y2) (s' := y3) fun G hG => ?_).mono ?_
      · have := drop_any p G w1.drew st a.n hG hok.len
        rw [hy] at this
        exact this
      · rintro E w2 ⟨rfl, m2, k2, b2⟩
        exact ⟨_, rfl, rfl, blk_cell ((k2 w.heap.size (.inr rfl)).trans HB1.out) 1 rfl, hide ⟨m2, k2, (bd1.mono hbs1).trans b2⟩⟩)
    have SB : Hid (∀ w2, PM base p q (fun g => Pr g ∨ g = w.heap.size) w0 w2 y3 st ∧ (∀ g, (Pr g ∨ g = w.heap.size) → w2.heap[g]? = w1.heap[g]?) ∧ Below base w1 w2 → Calls Try.prog 36 #[.pointer (some ⟨q, 0, none⟩), .int .i64 a.n] w2 fun E w' => ∃ u, E = .returned u ∧ (u = .int .i64 y2 ∧ Hid (∃ st', PM base p q Pr w0 w' st' st' ∧ Lm.Ok st' ∧ st'.last ≤ st.last + 1 ∧ (∀ g, Pr g → w'.heap[g]? = w.heap[g]?) ∧ Below base w w'))) := hide (by
      rintro w2 ⟨m2, k2, b2⟩
      refine (m2.callB (f := 36) (args := #[.pointer (some ⟨q, 0, none⟩), .int .i64 a.n]) (v := .int .i64 y2) (s' := y3) fun H hH => ?_).mono ?_
      · have := dropR_any q H w2 st a.n hH hok.len
        rw [hy] at this
        exact this
      · rintro E w3 ⟨rfl, m3, k3, b3⟩
        exact ⟨_, rfl, rfl, hide ⟨y3, m3.beside (Below.refl _ _) (fun g hg => .inl (.inl hg)) (fun g hg => by have := hPl g hg; have := (b1.mono hbs).trans (b2.trans b3); have := this.size; omega), hoy, by simp only at hly; omega, fun g hg => (k3 g (.inl hg)).trans ((k2 g (.inl hg)).trans (b1.block g (hPl g hg))), (b1.mono hbs).trans (b2.trans b3)⟩⟩)
    clear hy hly hoy
    go_wp2_with fail
    go_region_law (first
      | (have hp := M2; refine call_at rfl 36 #[.tmp 105, .tmp 107] #[37, 3] rfl Try.enters36 #[.pointer (some ⟨q, 0, none⟩), .int .i64 a.n] (by first | (simp [Act.eval]; done) | (simp [Act.eval, Act.put]; done)) (SB.out w2 M2.out) ?_; rintro _ w3 ⟨rfl, J⟩)
      | (refine call_at rfl 13 #[.tmp 101, .tmp 103] #[23, 3] rfl Try.enters13 #[.pointer (some ⟨p, 0, none⟩), .int .i64 a.n] (by first | (simp [Act.eval]; done) | (simp [Act.eval, Act.put]; done)) SA.out ?_; rintro _ w2 ⟨rfl, d1, M2⟩))
    all_goals
      go_wp2
      go_ret
      exact ⟨rfl, J.out⟩

end Go.Proofs.Ytadfbmglbaebiaa
