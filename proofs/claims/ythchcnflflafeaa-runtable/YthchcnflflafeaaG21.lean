/- Texts of one layer, one behind the other. -/
import Derived.Test.YthchcnflflafeaaG18
import Derived.Test.YthchcnflflafeaaG20
import Derived.Test.YthchcnflflafeaaGPj
import Derived.Test.YthchcnflflafeaaG6
/- The chapter's example of runs, and that the program lives. -/
namespace Go.Proofs.Ythchcnflflafeaa
open Go.RowKit
open Bm (Ov)
set_option linter.unusedVariables false

def exL : List Ov := [⟨false, ⟨#[97]⟩, ⟨#[]⟩⟩, ⟨true, ⟨#[98]⟩, ⟨#[49]⟩⟩]
def exR : Cm.Cv := ⟨1, 2, exL⟩

theorem exL_ok : Rn.chk 1 2 exL = 0 := by decide
theorem exL_fit : FitO exL := (fit_run exL_ok).1
theorem exL_enc : Rn.encR 1 2 exL = [1, 2, 2, 0, 1, 97, 1, 1, 98, 1, 49] := by
  simp [Rn.encR, exL, Rn.ens, Om.opEnc, Om.cnt, Om.ints, Bm.Ov.kl, Bm.Ov.vl, Vm.enc_lo]

theorem example_any (w : World) :
    Calls Try.prog 12 #[] w fun E w' => ∃ v, E = .returned (cmv 1 2 v) ∧ OwnO 35 w.heap.size w' v exL ∧ Below w.heap.size w w' := by
  unfold cmv
  obtain ⟨w1, hw1, sz1, bel1, hR⟩ := blk_step w #[.int .i64 0, .int .i64 0, .slice none 0 0] 32
  obtain ⟨w2, hw2, sz2, bel2, own2⟩ := ops_step 35 w1 #[.bool false, .string ⟨#[97]⟩, .string ⟨#[]⟩, .bool true, .string ⟨#[98]⟩, .string ⟨#[49]⟩] 2 exL rfl rfl (by simp [maxLen])
  have hR2 := (bel2.block w.heap.size (by omega)).trans hR
  have bel02 : Below w.heap.size w w2 := bel1.trans (bel2.mono (by omega))
  rw [sz1] at own2
  obtain ⟨V', hV', bV', gV', ⟨a0, a1, a2⟩, ⟨f0, f1, f2⟩, ⟨z0, z1, z2⟩⟩ := res_step hR2 (.int .i64 1) (.int .i64 2) (.slice (some ⟨w.heap.size + 1, 0, none⟩) 2 2)
  have belV' := below_put bel02 gV' (Nat.le_refl _) (by omega)
  have ownV' := (own2.keptg gV' (by omega)).rebase (base' := w.heap.size) (by omega)
  clear hR hR2 bel1 bel2 own2 bV' gV' bel02
  go_enter Try.func12, Try.ntmps12
  go_wp2
  refine bodyPost_ret (v := .agg #[.int .i64 1, .int .i64 2, .slice (some ⟨w.heap.size + 1, 0, none⟩) 2 2]) (by simp [results, Try.results12, go_sem, z0, z1, z2]) rfl ?_
  exact ⟨_, rfl, ownV', belV'⟩

def rs0 : Rl.Rs := ⟨Dm.new, [], false⟩

theorem rnew_log {l : List Cm.Cv} (h : Rl.Lg 0 (Rl.hld Dm.new) l) : l = [] := Rl.lg_one h (Rl.lg_self (l := []) trivial)
theorem rnew_op : ropE Dm.new [] = 0 ∧ ropD Dm.new [] = Dm.new := ⟨rfl, rfl⟩
theorem rnew_kin : Rl.Kin rs0 [] := ⟨rfl, rfl, rfl, trivial, rfl, rfl⟩
theorem rnew_big : RBig rs0 := big_new.mono (by decide) (by decide)

theorem rnew_any (w0 w : World) (q : Nat) (hq : w0.heap.size ≤ q) (h : Pk q (fun g => g = q) w Dm.new) (hb : Below w0.heap.size w0 w) :
    Calls Try.prog 9 #[.pointer (some ⟨q, 0, none⟩)] w fun E w' => ∃ p F, E = .returned (.tuple #[.pointer (some ⟨p, 0, none⟩), .int .i64 0]) ∧ RW p q F w' rs0 ∧ (∀ g, F g → w0.heap.size ≤ g) ∧ Below w0.heap.size w0 w' := by
  refine (hopen_any q _ w Dm.new h (big_new.mono (by decide) (by decide))).mono ?_
  rintro E w' ⟨l, LG, PS, hc⟩
  have hl := rnew_log LG.out
  subst hl
  obtain ⟨F', k1, k2, k3⟩ := PS
  have hbs := hb.size
  rcases hc with ⟨h0, _⟩ | ⟨_, p, G, rfl, hw, hg⟩
  · exact absurd rnew_op.1 h0
  · refine ⟨p, _, rfl, ⟨F', G, k1, hw, rfl⟩, ?_, hb.trans (k2.below (fun g hg => by omega) hb.size)⟩
    rintro g (e | e)
    · rcases k3 g e with e | e
      · omega
      · omega
    · have := hg g e
      omega

theorem rbelow_step {p q : Nat} {F : Nat → Prop} {w0 w w' : World} {s : Rl.Rs} (hb : Below w0.heap.size w0 w) (hF : ∀ g, F g → w0.heap.size ≤ g) (h : RStep p q F w w' s) : ∃ F', RW p q F' w' s ∧ (∀ g, F' g → w0.heap.size ≤ g) ∧ Below w0.heap.size w0 w' := by
  obtain ⟨F', h1, h2, h3⟩ := h
  have := hb.size
  refine ⟨F', h1, fun g hg => ?_, hb.trans (h2.below hF hb.size)⟩
  rcases h3 g hg with e | e
  · exact hF g e
  · omega

/-- A Flush of a run of one's own. -/
theorem lflu_any (w0 w : World) (p q : Nat) (F : Nat → Prop) (s : Rl.Rs) (f u : Int) (l : List Ov) (v : Value) (h : RW p q F w s) (hF : ∀ g, F g → w0.heap.size ≤ g) (hb : Below w0.heap.size w0 w) (hs : RBig s) (hv : ∃ b, OwnO 35 b w v l ∧ ∀ g, F g → g < b) (hf : FitO l) (h64 : In64 f ∧ In64 u) (hl : l.length * 40 ≤ 140737488351232) :
    Calls Try.prog 11 #[.pointer (some ⟨p, 0, none⟩), cmv f u v] w fun E w' => E = .returned (.int .i64 (Rl.flu s ⟨f, u, l⟩).1) ∧ ∃ F', RW p q F' w' (Rl.flu s ⟨f, u, l⟩).2 ∧ (∀ g, F' g → w0.heap.size ≤ g) ∧ Below w0.heap.size w0 w' := by
  obtain ⟨b, ho, hfb⟩ := hv
  refine (hflush_any p q F w s ⟨f, u, v, l⟩ h hs ho.is hf h64 hl (fun _ g hg hf => by
    have h1 := (OwnO.block ho g hg).1
    have h2 := hfb g hf
    omega)).mono ?_
  rintro E w' ⟨rfl, k⟩
  exact ⟨rfl, rbelow_step hb hF k⟩

theorem hget_any (p q : Nat) (F : Nat → Prop) (w : World) (s : Rl.Rs) (key : ByteArray) (h : RW p q F w s) :
    Calls Try.prog 13 #[.pointer (some ⟨p, 0, none⟩), .string key] w fun E w' => E = .returned (.tuple #[.string (gv (Rl.tab s.l) key), .bool (Tm.met (Rl.tab s.l) key), .bool (gp (Rl.tab s.l) key)]) ∧ Below w.heap.size w w' := by
  obtain ⟨F1, G1, h1, ⟨v, rs, hv, _⟩, _⟩ := h
  exact hget_v p q w s.l s.bk v rs key hv

theorem hlist_any (p q : Nat) (F : Nat → Prop) (w : World) (s : Rl.Rs) (h : RW p q F w s) :
    Calls Try.prog 29 #[.pointer (some ⟨p, 0, none⟩)] w fun E w' => ∃ v' rs', E = .returned v' ∧ Rq w.heap.size w' s.l v' rs' ∧ ApC rs' ∧ Below w.heap.size w w' := by
  obtain ⟨F1, G1, h1, ⟨v, rs, hv, _⟩, _⟩ := h
  exact hlist_v p q w s.l s.bk v rs hv

/-- What the example leaves. -/
def rs1 : Rl.Rs := (Rl.flu rs0 exR).2
theorem ex_flu : (Rl.flu rs0 exR).1 = 0 ∧ Rl.Kin rs1 [exR] ∧ rs1.d.has = false := Rl.flu_safe rnew_kin rfl exR exL_ok rfl

theorem ex_b : gv (Rl.tab [exR]) ⟨#[98]⟩ = ⟨#[49]⟩ ∧ Tm.met (Rl.tab [exR]) ⟨#[98]⟩ = true ∧ gp (Rl.tab [exR]) ⟨#[98]⟩ = true := by decide

set_option maxRecDepth 20000 in
set_option maxHeartbeats 4000000 in
theorem lives_any (w : World) : Calls Try.prog 8 #[] w fun E w' => E = .returned (.bool true) ∧ Below w.heap.size w w' := by
  go_enter Try.func8, Try.ntmps8
  go_wp2_with fail
  refine (example_any w).mono ?_
  rintro E w1 ⟨v1, rfl, o1, bel1⟩
  have HE := hide (henc_any 1 2 v1 exL w1 o1.is exL_fit (by simp [exL]))
  rw [exL_ok, Rn.out_ok exL_ok, exL_enc] at HE
  unfold cmv at HE ⊢
  obtain ⟨a1, n1, k1, hv1⟩ : ∃ a n k, v1 = .slice a n k := by
    obtain ⟨a1, k1, h1, _⟩ := o1.is.shape
    exact ⟨a1, _, k1, h1⟩
  subst hv1
  clear o1
  go_wp2_with fail
  refine HE.out.mono ?_
  rintro E w2 ⟨vb, rfl, ob, bel2⟩
  have b02 := bel1.trans (bel2.mono bel1.size)
  obtain ⟨ab, nb, kb, hvb⟩ : ∃ a n k, vb = .slice a n k := by
    obtain ⟨a1, k1, h1, _⟩ := ob.is.shape
    exact ⟨a1, _, k1, h1⟩
  subst hvb
  have OB := hide ob
  clear HE bel1 bel2 ob
  go_wp2_with fail
  refine (new_any w2).mono ?_
  rintro E w3 ⟨rfl, K3, bel3⟩
  have HO := hide (rnew_any w2 w3 w2.heap.size (Nat.le_refl _) K3 bel3)
  clear K3 bel3
  go_wp2_with fail
  refine HO.out.mono ?_
  rintro E w4 ⟨p, F4, rfl, W4, g4, b4⟩
  obtain ⟨w5, hw5, sz5, bel5, own5⟩ := own_step .u8 5 w4 #[.int .u8 1, .int .u8 2, .int .u8 2, .int .u8 0, .int .u8 1, .int .u8 97, .int .u8 1, .int .u8 1, .int .u8 98, .int .u8 1, .int .u8 49] 11 [1, 2, 2, 0, 1, 97, 1, 1, 98, 1, 49] rfl rfl (by simp [maxLen]) (by decide)
  have C5 := hide (same_yes _ _ [1, 2, 2, 0, 1, 97, 1, 1, 98, 1, 49] [1, 2, 2, 0, 1, 97, 1, 1, 98, 1, 49] w5 ((OB.out.below b4).below bel5).is own5.is (by simp) rfl)
  have b25 := b4.trans (bel5.mono b4.size)
  have W5 := hide (W4.below bel5)
  have G4 := hide g4
  have B25 := hide b25
  clear HO OB own5 W4 g4 b4 bel5 b25
  go_wp2_with fail
  refine C5.out.mono ?_
  rintro E w6 ⟨rfl, bel6⟩
  have W6 := hide (W5.out.below bel6)
  have B26 := hide (B25.out.trans (bel6.mono B25.out.size))
  have HX := hide (example_any w6)
  unfold cmv at HX
  clear C5 W5 B25 bel6
  go_wp2_with fail
  refine HX.out.mono ?_
  rintro E w7 ⟨v7, rfl, o7, bel7⟩
  have HFL := hide (lflu_any w2 w7 p w2.heap.size F4 rs0 1 2 exL v7 (W6.out.below bel7) G4.out (B26.out.trans (bel7.mono B26.out.size)) rnew_big ⟨_, o7, W6.out.lt⟩ exL_fit ⟨⟨by omega, by omega⟩, ⟨by omega, by omega⟩⟩ (by simp [exL]))
  unfold cmv at HFL
  have e0 : (Rl.flu rs0 ⟨1, 2, exL⟩).1 = 0 := ex_flu.1
  rw [e0, show (Rl.flu rs0 ⟨1, 2, exL⟩).2 = rs1 from rfl] at HFL
  obtain ⟨a7, n7, k7, hv7⟩ : ∃ a n k, v7 = .slice a n k := by
    obtain ⟨a1, k1, h1, _⟩ := o7.is.shape
    exact ⟨a1, _, k1, h1⟩
  subst hv7
  clear HX W6 G4 B26 o7 bel7 e0
  go_wp2_with fail
  refine HFL.out.mono ?_
  rintro E w8 ⟨rfl, F8, W8, g8, b8⟩
  have hl1 : rs1.l = [exR] := ex_flu.2.1.l
  have HG := hide (hget_any p w2.heap.size F8 w8 rs1 ⟨#[98]⟩ W8)
  rw [hl1, ex_b.1, ex_b.2.1, ex_b.2.2] at HG
  have W8 := hide W8
  have B8 := hide (b02.trans (b8.mono b02.size))
  clear HFL g8 b8
  go_wp2_with fail
  refine HG.out.mono ?_
  rintro E w9 ⟨rfl, bel9⟩
  have HEN := hide (hrend_any p w2.heap.size F8 w9 rs1 (W8.out.below bel9))
  rw [hl1, show Cm.lastN 0 [exR] = 2 from rfl] at HEN
  have B9 := hide (B8.out.trans (bel9.mono B8.out.size))
  clear HG W8 B8 bel9 hl1
  go_wp2_with fail
  refine HEN.out.mono ?_
  rintro E w10 ⟨rfl, rfl⟩
  go_wp2
  go_ret
  exact ⟨rfl, B9.out⟩

end Go.Proofs.Ythchcnflflafeaa

/- A disk grows by a Flush only so much. -/
namespace Go.Proofs.Ythchcnflflafeaa
open Go.RowKit
set_option linter.unusedVariables false

theorem big_ext {t u : Nat} {st : Dm.Ds} {bs : List Int} (h : Big t u st) (hl : bs.length ≤ 52236) : Big (t + 52236) (u + 818) (Rl.ext st bs).2 := by
  have hb := (big_write h 2 bs).mono (t' := t + 52236) (u' := u + 817) (by omega) (by have := cnt_run hl; omega)
  unfold Rl.ext
  split
  · exact hb.mono (Nat.le_refl _) (by omega)
  · exact big_sync hb

theorem big_flu {t u : Nat} {s : Rl.Rs} {c : Cm.Cv} (h : Big t u s.d) : Big (t + 52236) (u + 818) (Rl.flu s c).2.d := by
  have hm : Big (t + 52236) (u + 818) s.d := h.mono (by omega) (by omega)
  unfold Rl.flu
  split
  · exact hm
  split
  · exact hm
  split
  · exact hm
  · rename_i h1 h2
    have hf := big_ext (bs := Rl.fr c) h (Rl.fr_small (c := c) (by simpa using h1))
    split
    · exact hf
    · exact hf

theorem rbig_of {t u : Nat} {s : Rl.Rs} (h : Big t u s.d) (ht : t ≤ 90000000) (hu : u ≤ 700000) : RBig s := Big.mono h ht hu

end Go.Proofs.Ythchcnflflafeaa
