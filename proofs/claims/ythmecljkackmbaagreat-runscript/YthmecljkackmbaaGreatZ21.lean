/- Texts of one layer, one behind the other. -/
import Derived.Test.YthmecljkackmbaaGreatZ18
import Derived.Test.YthmecljkackmbaaGreatZ20
import Derived.Test.YthmecljkackmbaaGreatZPj
import Derived.Test.YthmecljkackmbaaGreatZ6
import Derived.Test.YthmecljkackmbaaGreatZ11
import Derived.Test.YthmecljkackmbaaGreatZ8
import Derived.BigQuiet
/- The chapter's example of runs, and that the program lives. -/
namespace Go.Proofs.YthmecljkackmbaaGreat
open Go.RowKit
open Bm (Ov)
set_option linter.unusedVariables false

def exL : List Ov := [⟨false, ⟨#[97]⟩, ⟨#[]⟩⟩, ⟨true, ⟨#[98]⟩, ⟨#[49]⟩⟩]
def exR : Cm.Cv := ⟨1, 2, exL⟩

theorem exL_ok : Rn.chk 1 2 exL = 0 := by decide
theorem exL_fit : FitO exL := (fit_run exL_ok).1
theorem exL_enc : Rn.encR 1 2 exL = [1, 2, 2, 0, 1, 97, 1, 1, 98, 1, 49] := by
  simp [Rn.encR, exL, Rn.ens, Om.opEnc, Om.cnt, Om.ints, Bm.Ov.kl, Bm.Ov.vl, Vm.enc_lo]

theorem example_any (w : World) :
    Calls Tryz.prog 93 #[] w fun E w' => ∃ v, E = .returned (cmv 1 2 v) ∧ OwnO 81 w.heap.size w' v exL ∧ Below w.heap.size w w' := by
  unfold cmv
  obtain ⟨w1, hw1, sz1, bel1, hR⟩ := blk_step w #[.int .i64 0, .int .i64 0, .slice none 0 0] 93
  obtain ⟨w2, hw2, sz2, bel2, own2⟩ := ops_step 81 w1 #[.bool false, .string ⟨#[97]⟩, .string ⟨#[]⟩, .bool true, .string ⟨#[98]⟩, .string ⟨#[49]⟩] 2 exL rfl rfl (by simp [maxLen])
  have hR2 := (bel2.block w.heap.size (by omega)).trans hR
  have bel02 : Below w.heap.size w w2 := bel1.trans (bel2.mono (by omega))
  rw [sz1] at own2
  obtain ⟨V', hV', bV', gV', ⟨a0, a1, a2⟩, ⟨f0, f1, f2⟩, ⟨z0, z1, z2⟩⟩ := res_step hR2 (.int .i64 1) (.int .i64 2) (.slice (some ⟨w.heap.size + 1, 0, none⟩) 2 2)
  have belV' := below_put bel02 gV' (Nat.le_refl _) (by omega)
  have ownV' := (own2.keptg gV' (by omega)).rebase (base' := w.heap.size) (by omega)
  clear hR hR2 bel1 bel2 own2 bV' gV' bel02
  go_enter Tryz.func93, Tryz.ntmps93
  go_wp2
  refine bodyPost_ret (v := .agg #[.int .i64 1, .int .i64 2, .slice (some ⟨w.heap.size + 1, 0, none⟩) 2 2]) (by simp [results, Tryz.results93, go_sem, z0, z1, z2]) rfl ?_
  exact ⟨_, rfl, ownV', belV'⟩

def rs0 : Rl.Rs := ⟨Dm.new, [], false⟩

theorem rnew_log {l : List Cm.Cv} (h : Rl.Lg 0 (Rl.hld Dm.new) l) : l = [] := Rl.lg_one h (Rl.lg_self (l := []) trivial)
theorem rnew_op : ropE Dm.new [] = 0 ∧ ropD Dm.new [] = Dm.new := ⟨rfl, rfl⟩
theorem rnew_kin : Rl.Kin rs0 [] := ⟨rfl, rfl, rfl, trivial, rfl, rfl⟩
theorem rnew_big : RBig rs0 := big_new.mono (by decide) (by decide)

theorem rnew_any (w0 w : World) (q : Nat) (hq : w0.heap.size ≤ q) (h : Pk q (fun g => g = q) w Dm.new) (hb : Below w0.heap.size w0 w) :
    Calls Tryz.prog 19 #[.pointer (some ⟨q, 0, none⟩)] w fun E w' => ∃ p F, E = .returned (.tuple #[.pointer (some ⟨p, 0, none⟩), .int .i64 0]) ∧ RW p q F w' rs0 ∧ (∀ g, F g → w0.heap.size ≤ g) ∧ Below w0.heap.size w0 w' := by
  refine (hopen_any q _ w Dm.new h (big_new.mono (by decide) (by decide))).mono ?_
  rintro E w' ⟨l, LG, PS, hc⟩
  have hl := rnew_log LG.out
  subst hl
  obtain ⟨F', k1, k2, k3⟩ := PS
  have hbs := hb.size
  rcases hc with ⟨h0, _⟩ | ⟨_, p, G, rfl, hw, hg⟩
  · exact absurd rnew_op.1 h0
  · refine ⟨p, _, rfl, ⟨F', G, k1, hw, rfl⟩, ?_, hb.trans (k2.below (fun g hg => by omega) hb.size)⟩
    rintro g (e | e)
    · rcases k3 g e with e | e
      · omega
      · omega
    · have := hg g e
      omega

theorem rbelow_step {p q : Nat} {F : Nat → Prop} {w0 w w' : World} {s : Rl.Rs} (hb : Below w0.heap.size w0 w) (hF : ∀ g, F g → w0.heap.size ≤ g) (h : RStep p q F w w' s) : ∃ F', RW p q F' w' s ∧ (∀ g, F' g → w0.heap.size ≤ g) ∧ Below w0.heap.size w0 w' := by
  obtain ⟨F', h1, h2, h3⟩ := h
  have := hb.size
  refine ⟨F', h1, fun g hg => ?_, hb.trans (h2.below hF hb.size)⟩
  rcases h3 g hg with e | e
  · exact hF g e
  · omega

/-- A Flush of a run of one's own. -/
theorem lflu_any (w0 w : World) (p q : Nat) (F : Nat → Prop) (s : Rl.Rs) (f u : Int) (l : List Ov) (v : Value) (h : RW p q F w s) (hF : ∀ g, F g → w0.heap.size ≤ g) (hb : Below w0.heap.size w0 w) (hs : RBig s) (hv : ∃ b, OwnO 81 b w v l ∧ ∀ g, F g → g < b) (hf : FitO l) (h64 : In64 f ∧ In64 u) (hl : l.length * 40 ≤ 140737488351232) :
    Calls Tryz.prog 54 #[.pointer (some ⟨p, 0, none⟩), cmv f u v] w fun E w' => E = .returned (.int .i64 (Rl.flu s ⟨f, u, l⟩).1) ∧ ∃ F', RW p q F' w' (Rl.flu s ⟨f, u, l⟩).2 ∧ (∀ g, F' g → w0.heap.size ≤ g) ∧ Below w0.heap.size w0 w' := by
  obtain ⟨b, ho, hfb⟩ := hv
  refine (hflush_any p q F w s ⟨f, u, v, l⟩ h hs ho.is hf h64 hl (fun _ g hg hf => by
    have h1 := (OwnO.block ho g hg).1
    have h2 := hfb g hf
    omega)).mono ?_
  rintro E w' ⟨rfl, k⟩
  exact ⟨rfl, rbelow_step hb hF k⟩

theorem hget_any (p q : Nat) (F : Nat → Prop) (w : World) (s : Rl.Rs) (key : ByteArray) (h : RW p q F w s) :
    Calls Tryz.prog 95 #[.pointer (some ⟨p, 0, none⟩), .string key] w fun E w' => E = .returned (.tuple #[.string (gv (Rl.tab s.l) key), .bool (Tm.met (Rl.tab s.l) key), .bool (gp (Rl.tab s.l) key)]) ∧ Below w.heap.size w w' := by
  obtain ⟨F1, G1, h1, ⟨v, rs, hv, _⟩, _⟩ := h
  exact hget_v p q w s.l s.bk v rs key hv

theorem hlist_any (p q : Nat) (F : Nat → Prop) (w : World) (s : Rl.Rs) (h : RW p q F w s) :
    Calls Tryz.prog 46 #[.pointer (some ⟨p, 0, none⟩)] w fun E w' => ∃ v' rs', E = .returned v' ∧ Rq w.heap.size w' s.l v' rs' ∧ ApC rs' ∧ Below w.heap.size w w' := by
  obtain ⟨F1, G1, h1, ⟨v, rs, hv, _⟩, _⟩ := h
  exact hlist_v p q w s.l s.bk v rs hv

/-- What the example leaves. -/
def rs1 : Rl.Rs := (Rl.flu rs0 exR).2
theorem ex_flu : (Rl.flu rs0 exR).1 = 0 ∧ Rl.Kin rs1 [exR] ∧ rs1.d.has = false := Rl.flu_safe rnew_kin rfl exR exL_ok rfl

theorem ex_b : gv (Rl.tab [exR]) ⟨#[98]⟩ = ⟨#[49]⟩ ∧ Tm.met (Rl.tab [exR]) ⟨#[98]⟩ = true ∧ gp (Rl.tab [exR]) ⟨#[98]⟩ = true := by decide

set_option maxRecDepth 20000 in
set_option maxHeartbeats 4000000 in
theorem lives_any (w : World) : Calls Tryz.prog 41 #[] w fun E w' => E = .returned (.bool true) ∧ Below w.heap.size w w' := by
  go_enter Tryz.func41, Tryz.ntmps41
  go_wp2_with fail
  refine (example_any w).mono ?_
  rintro E w1 ⟨v1, rfl, o1, bel1⟩
  have HE := hide (henc_any 1 2 v1 exL w1 o1.is exL_fit (by simp [exL]))
  rw [exL_ok, Rn.out_ok exL_ok, exL_enc] at HE
  unfold cmv at HE ⊢
  obtain ⟨a1, n1, k1, hv1⟩ : ∃ a n k, v1 = .slice a n k := by
    obtain ⟨a1, k1, h1, _⟩ := o1.is.shape
    exact ⟨a1, _, k1, h1⟩
  subst hv1
  clear o1
  go_wp2_with fail
  refine HE.out.mono ?_
  rintro E w2 ⟨vb, rfl, ob, bel2⟩
  have b02 := bel1.trans (bel2.mono bel1.size)
  obtain ⟨ab, nb, kb, hvb⟩ : ∃ a n k, vb = .slice a n k := by
    obtain ⟨a1, k1, h1, _⟩ := ob.is.shape
    exact ⟨a1, _, k1, h1⟩
  subst hvb
  have OB := hide ob
  clear HE bel1 bel2 ob
  go_wp2_with fail
  refine (new_any w2).mono ?_
  rintro E w3 ⟨rfl, K3, bel3⟩
  have HO := hide (rnew_any w2 w3 w2.heap.size (Nat.le_refl _) K3 bel3)
  clear K3 bel3
  go_wp2_with fail
  refine HO.out.mono ?_
  rintro E w4 ⟨p, F4, rfl, W4, g4, b4⟩
  obtain ⟨w5, hw5, sz5, bel5, own5⟩ := own_step .u8 5 w4 #[.int .u8 1, .int .u8 2, .int .u8 2, .int .u8 0, .int .u8 1, .int .u8 97, .int .u8 1, .int .u8 1, .int .u8 98, .int .u8 1, .int .u8 49] 11 [1, 2, 2, 0, 1, 97, 1, 1, 98, 1, 49] rfl rfl (by simp [maxLen]) (by decide)
  have C5 := hide (same_yes _ _ [1, 2, 2, 0, 1, 97, 1, 1, 98, 1, 49] [1, 2, 2, 0, 1, 97, 1, 1, 98, 1, 49] w5 ((OB.out.below b4).below bel5).is own5.is (by simp) rfl)
  have b25 := b4.trans (bel5.mono b4.size)
  have W5 := hide (W4.below bel5)
  have G4 := hide g4
  have B25 := hide b25
  clear HO OB own5 W4 g4 b4 bel5 b25
  go_wp2_with fail
  refine C5.out.mono ?_
  rintro E w6 ⟨rfl, bel6⟩
  have W6 := hide (W5.out.below bel6)
  have B26 := hide (B25.out.trans (bel6.mono B25.out.size))
  have HX := hide (example_any w6)
  unfold cmv at HX
  clear C5 W5 B25 bel6
  go_wp2_with fail
  refine HX.out.mono ?_
  rintro E w7 ⟨v7, rfl, o7, bel7⟩
  have HFL := hide (lflu_any w2 w7 p w2.heap.size F4 rs0 1 2 exL v7 (W6.out.below bel7) G4.out (B26.out.trans (bel7.mono B26.out.size)) rnew_big ⟨_, o7, W6.out.lt⟩ exL_fit ⟨⟨by omega, by omega⟩, ⟨by omega, by omega⟩⟩ (by simp [exL]))
  unfold cmv at HFL
  have e0 : (Rl.flu rs0 ⟨1, 2, exL⟩).1 = 0 := ex_flu.1
  rw [e0, show (Rl.flu rs0 ⟨1, 2, exL⟩).2 = rs1 from rfl] at HFL
  obtain ⟨a7, n7, k7, hv7⟩ : ∃ a n k, v7 = .slice a n k := by
    obtain ⟨a1, k1, h1, _⟩ := o7.is.shape
    exact ⟨a1, _, k1, h1⟩
  subst hv7
  clear HX W6 G4 B26 o7 bel7 e0
  go_wp2_with fail
  refine HFL.out.mono ?_
  rintro E w8 ⟨rfl, F8, W8, g8, b8⟩
  have hl1 : rs1.l = [exR] := ex_flu.2.1.l
  have HG := hide (hget_any p w2.heap.size F8 w8 rs1 ⟨#[98]⟩ W8)
  rw [hl1, ex_b.1, ex_b.2.1, ex_b.2.2] at HG
  have W8 := hide W8
  have B8 := hide (b02.trans (b8.mono b02.size))
  clear HFL g8 b8
  go_wp2_with fail
  refine HG.out.mono ?_
  rintro E w9 ⟨rfl, bel9⟩
  have HEN := hide (hrend_any p w2.heap.size F8 w9 rs1 (W8.out.below bel9))
  rw [hl1, show Cm.lastN 0 [exR] = 2 from rfl] at HEN
  have B9 := hide (B8.out.trans (bel9.mono B8.out.size))
  clear HG W8 B8 bel9 hl1
  go_wp2_with fail
  refine HEN.out.mono ?_
  rintro E w10 ⟨rfl, rfl⟩
  go_wp2
  go_ret
  exact ⟨rfl, B9.out⟩

end Go.Proofs.YthmecljkackmbaaGreat

/- A disk grows by a Flush only so much. -/
namespace Go.Proofs.YthmecljkackmbaaGreat
open Go.RowKit
set_option linter.unusedVariables false

theorem big_ext {t u : Nat} {st : Dm.Ds} {bs : List Int} (h : Big t u st) (hl : bs.length ≤ 52236) : Big (t + 52236) (u + 818) (Rl.ext st bs).2 := by
  have hb := (big_write h 2 bs).mono (t' := t + 52236) (u' := u + 817) (by omega) (by have := cnt_run hl; omega)
  unfold Rl.ext
  split
  · exact hb.mono (Nat.le_refl _) (by omega)
  · exact big_sync hb

theorem big_flu {t u : Nat} {s : Rl.Rs} {c : Cm.Cv} (h : Big t u s.d) : Big (t + 52236) (u + 818) (Rl.flu s c).2.d := by
  have hm : Big (t + 52236) (u + 818) s.d := h.mono (by omega) (by omega)
  unfold Rl.flu
  split
  · exact hm
  split
  · exact hm
  split
  · exact hm
  · rename_i h1 h2
    have hf := big_ext (bs := Rl.fr c) h (Rl.fr_small (c := c) (by simpa using h1))
    split
    · exact hf
    · exact hf

theorem rbig_of {t u : Nat} {s : Rl.Rs} (h : Big t u s.d) (ht : t ≤ 90000000) (hu : u ≤ 700000) : RBig s := Big.mono h ht hu

end Go.Proofs.YthmecljkackmbaaGreat

/- The contract of the laws' SameRuns. -/
namespace Go.Proofs.YthmecljkackmbaaGreat
open Go.RowKit
set_option linter.unusedVariables false

theorem at_ofN {l : List Cw} {k : Nat} (h : k < l.length) : ∃ c, l[k]? = some c := ⟨l[k], List.getElem?_eq_getElem h⟩

set_option maxRecDepth 20000 in
set_option maxHeartbeats 4000000 in
theorem sameRs_any (va vb : Value) (r s : List Cw) (w : World) (ha : IsC w va r) (hb : IsC w vb s) (fa : FitC r) (fb : FitC s) (hl : r.length ≤ 140737488355328) (hl' : s.length ≤ 140737488355328) :
    Calls Tryz.prog 104 #[va, vb] w fun E w' => E = .returned (.bool (sameV (cvs r) (cvs s))) ∧ Below w.heap.size w w' := by
  obtain ⟨ans, hans⟩ : ∃ x, sameV (cvs r) (cvs s) = x := ⟨_, rfl⟩
  rw [hans]
  have HA := hide hans
  clear hans
  obtain ⟨a1, p1, hva, _, _⟩ := ha.1.shape
  obtain ⟨a2, p2, hvb, _, _⟩ := hb.1.shape
  by_cases hne : r.length = s.length
  · have C1 := hide (isC_cells ha)
    have C2 := hide (isC_cells hb)
    have I1 := hide ha.2
    have I2 := hide hb.2
    have F1 := hide fa
    have F2 := hide fb
    have HL := hide hne
    have ht : ((r.length : Int) != (s.length : Int)) = false := by simp; omega
    subst hva hvb
    generalize hn : r.length = n at *
    generalize hm : s.length = m at *
    have HN := hide hn
    have HM := hide hm
    clear ha hb fa fb hne hn hm
    go_enter Tryz.func104, Tryz.ntmps104
    go_wp2
    go_loopw [5] (fun i wr => ∃ (k : Nat), k ≤ n ∧ i = .int .i64 k ∧ Hid ((cvs r).take k = (cvs s).take k) ∧ Below w.heap.size w wr) (fun i _ => n - (intOf i).toNat)
    case atStart => exact ⟨0, by omega, rfl, hide rfl, Below.refl _ _⟩
    case round =>
      obtain ⟨k, hk, rfl, HT, bel⟩ := hrel
      have sz := bel.size
      by_cases hlt : k < n
      · obtain ⟨b1, o1, c1, hv1, hB1, hc1⟩ := C1.out (by have := HN.out; omega)
        obtain ⟨b2, o2, c2, hv2, hB2, hc2⟩ := C2.out (by have := HM.out; have := HL.out; omega)
        simp only [Value.slice.injEq, true_and] at hv1 hv2
        obtain ⟨rfl, rfl⟩ := hv1
        obtain ⟨rfl, rfl⟩ := hv2
        obtain ⟨c, hc⟩ := at_ofN (l := r) (k := k) (by have := HN.out; omega)
        obtain ⟨d, hd⟩ := at_ofN (l := s) (k := k) (by have := HM.out; have := HL.out; omega)
        obtain ⟨x0, x1, x2⟩ := row_at hc1 bel hB1 hc
        obtain ⟨y0, y1, y2⟩ := row_at hc2 bel hB2 hd
        have i1 := (I1.out c (List.mem_of_getElem? hc)).1.below bel
        have i2 := (I2.out d (List.mem_of_getElem? hd)).1.below bel
        have l1 := (F1.out c (List.mem_of_getElem? hc)).2
        have l2 := (F2.out d (List.mem_of_getElem? hd)).2
        have hlt' : (k : Int) < n := by omega
        have hlt2 : (k : Int) < m := by have := HL.out; omega
        have hB1' : b1 < wr.heap.size := by omega
        have hB2' : b2 < wr.heap.size := by omega
        have X : Hid (∀ m, Calls Tryz.prog 30 #[c.v, d.v] (wr.drewN m) fun e w' => e = .returned (.bool (Bm.sameL c.l d.l)) ∧ ∃ q, w' = (wr.drewN m).drewN q) := hide fun m => sameO_quiet _ _ c.l d.l (wr.drewN m) (i1.drewN m) (i2.drewN m) (by omega) (by omega)
        have HC := hide hc
        have HD := hide hd
        have HNE : Hid (c.c ≠ d.c → ans = false) := hide fun hne => by
          rw [← HA.out]
          refine sameV_no fun e => hne ?_
          have h1 : (cvs r)[k]? = some c.c := by rw [cvs_get, HC.out]; rfl
          rw [e, cvs_get, HD.out] at h1
          simpa using h1.symm
        have HTT : Hid (c.c = d.c → (cvs r).take (k + 1) = (cvs s).take (k + 1)) := hide fun he => by
          rw [List.take_add_one, List.take_add_one, HT.out, cvs_get, cvs_get, HC.out, HD.out]
          simp [he]
        clear hc hd hc1 hc2 l1 l2
        by_cases he : c.e = d.e
        · have he1 : (c.e != d.e) = false := by simp [he]
          by_cases hnn : c.n = d.n
          · have hn1 : (c.n != d.n) = false := by simp [hnn]
            obtain ⟨sm, hsm⟩ : ∃ x, Bm.sameL c.l d.l = x := ⟨_, rfl⟩
            rw [hsm] at X
            cases sm with
            | true =>
              have HT2 := hide (HTT.out (by unfold Cw.c; rw [he, hnn, Bm.sameL_iff.1 hsm]))
              clear he hnn hsm
              go_wp2_with fail
              go_quiet ((go_at_call 30; refine Calls.quiet_of (X.out _)))
              have belR := below_drewN bel nq
              clear x0 x1 x2 y0 y1 y2 i1 i2 bel
              go_wp2
              go_roundw
              case rel => exact ⟨k + 1, by omega, by go_num, HT2, belR⟩
              case measure => simp [intOf]; omega
            | false =>
              obtain rfl := HNE.out fun e => by
                have h3 : c.l = d.l := congrArg Cm.Cv.l e
                rw [Bm.sameL_iff.2 h3] at hsm
                cases hsm
              clear he hnn hsm
              go_wp2_with fail
              go_quiet ((go_at_call 30; refine Calls.quiet_of (X.out _)))
              have belR := below_drewN bel nq
              clear x0 x1 x2 y0 y1 y2 i1 i2 bel
              go_wp2
              go_ret
              exact ⟨rfl, belR⟩
          · have hn1 : (c.n != d.n) = true := by simp [hnn]
            obtain rfl := HNE.out fun e => hnn (congrArg Cm.Cv.n e)
            clear he hnn
            go_wp2_with fail
            go_quiet (fail)
            have belR := below_drewN bel nq
            clear x0 x1 x2 y0 y1 y2 i1 i2 bel
            go_wp2
            go_ret
            exact ⟨rfl, belR⟩
        · have he1 : (c.e != d.e) = true := by simp [he]
          obtain rfl := HNE.out fun e => he (congrArg Cm.Cv.e e)
          clear he
          go_wp2_with fail
          go_quiet (fail)
          have belR := below_drewN bel nq
          clear x0 x1 x2 y0 y1 y2 i1 i2 bel
          go_wp2
          go_ret
          exact ⟨rfl, belR⟩
      · have hlt' : ¬ (k : Int) < n := by omega
        have hfo := HA.out
        rw [sameV_iff.2 (by
          have h1 := HT.out
          rw [List.take_of_length_le (by rw [cvs_length, HN.out]; omega), List.take_of_length_le (by rw [cvs_length, HM.out]; have := HL.out; omega)] at h1
          exact h1)] at hfo
        subst hfo
        clear HA
        go_wp2
        go_ret
        exact ⟨rfl, bel⟩
  · have ht : ((r.length : Int) != (s.length : Int)) = true := by simp; omega
    have hfo := HA.out
    rw [sameV_no fun e => hne (by rw [← cvs_length r, ← cvs_length s, e])] at hfo
    subst hfo hva hvb
    clear hne HA
    go_enter Tryz.func104, Tryz.ntmps104
    go_wp2
    go_ret
    exact ⟨rfl, Below.refl _ _⟩

end Go.Proofs.YthmecljkackmbaaGreat
