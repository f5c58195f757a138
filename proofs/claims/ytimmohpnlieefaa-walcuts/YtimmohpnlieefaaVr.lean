/- The chapter's first examples: put, lives. -/
import Derived.Test.YtimmohpnlieefaaVp
import Derived.Test.YtimmohpnlieefaaVq
import Derived.Test.YtimmohpnlieefaaPj
import Derived.Test.YtimmohpnlieefaaA4
namespace Go.Proofs.Ytimmohpnlieefaa
open Go.RowKit
set_option linter.unusedVariables false

def exO : Bm.Ov := ⟨true, ⟨#[97]⟩, ⟨#[49]⟩⟩
def exB (n : Int) : List Int := [9, 1, n, 1, 1, 0, 1, 97, 1, 49]
def exC (n : Int) : Cm.Cv := ⟨1, n, [exO]⟩

theorem exO_ok : Bm.chkL [exO] = 0 := by decide
theorem exO_fit : FitO [exO] := (small_of exO_ok).fit
theorem exC_ok {e n : Int} (h : 1 ≤ e ∧ e ≤ 1048576 ∧ 1 ≤ n ∧ n ≤ 1048576) : Cm.chk e n [exO] = 0 := by rw [Cm.chk_in h, exO_ok]

theorem exF (n : Nat) (hn : n < 128) : Wl.fr ⟨1, n, [exO]⟩ = exB n := by
  have e : Wl.rec ⟨1, n, [exO]⟩ = [1, (n : Int), 1, 1, 0, 1, 97, 1, 49] := by
    simp [Wl.rec, Cm.encC, exO, Bm.encB, Bm.encL, Bm.encO, Bm.pre4, Bm.com, Bm.Ov.kl, Bm.Ov.vl, Bm.Ov.bit, Vm.enc_lo, Om.ints, Om.cnt, hn]
  unfold Wl.fr Fm.frm
  rw [e]
  simp [Vm.enc_lo, exB]

theorem put_any (e n : Int) (w : World) :
    Calls Try.prog 12 #[.int .i64 e, .int .i64 n] w fun E w' => ∃ v, E = .returned (cmv e n v) ∧ OwnO 87 w.heap.size w' v [exO] ∧ Below w.heap.size w w' := by
  unfold cmv
  obtain ⟨w1, hw1, sz1, bel1, hR⟩ := blk_step w #[.int .i64 0, .int .i64 0, .slice none 0 0] 32
  obtain ⟨w2, hw2, sz2, bel2, own2⟩ := ops_step 87 w1 #[.bool true, .string ⟨#[97]⟩, .string ⟨#[49]⟩] 1 [exO] rfl rfl (by simp [maxLen])
  have hR2 := (bel2.block w.heap.size (by omega)).trans hR
  have bel02 : Below w.heap.size w w2 := bel1.trans (bel2.mono (by omega))
  rw [sz1] at own2
  obtain ⟨V', hV', bV', gV', ⟨a0, a1, a2⟩, ⟨f0, f1, f2⟩, ⟨z0, z1, z2⟩⟩ := res_step hR2 (.int .i64 e) (.int .i64 n) (.slice (some ⟨w.heap.size + 1, 0, none⟩) 1 1)
  have belV' := below_put bel02 gV' (Nat.le_refl _) (by omega)
  have ownV' := (own2.keptg gV' (by omega)).rebase (base' := w.heap.size) (by omega)
  clear hR hR2 bel1 bel2 own2 bV' gV' bel02
  go_enter Try.func12, Try.ntmps12
  go_wp2
  refine bodyPost_ret (v := .agg #[.int .i64 e, .int .i64 n, .slice (some ⟨w.heap.size + 1, 0, none⟩) 1 1]) (by simp [results, Try.results12, go_sem, z0, z1, z2]) rfl ?_
  exact ⟨_, rfl, ownV', belV'⟩

/-- The states of the examples. -/
def lv0 : Wl.Ws := ⟨Dm.new, [], false⟩
def lv1 : Wl.Ws := ⟨⟨fun _ => [], [⟨0, false, 0, exB 1⟩], true, false, 0, 1⟩, [exC 1], false⟩
def lv2 : Wl.Ws := ⟨⟨fun _ => [], [⟨0, false, 0, exB 1⟩, ⟨0, false, 0, exB 2⟩], true, false, 0, 2⟩, [exC 1, exC 2], false⟩

theorem lv_app1 : Wl.wapp lv0 (exC 1) = (0, lv1) := by
  have e : Wl.fr (exC 1) = exB 1 := exF 1 (by decide)
  have hk : Cm.chk (exC 1).e (exC 1).n (exC 1).l = 0 := exC_ok (by decide)
  unfold Wl.wapp
  rw [e, if_neg (by decide), if_neg (by intro h; exact h hk), if_neg (by decide)]
  rfl

theorem lv_app3 : Wl.wapp lv1 (exC 3) = (15, lv1) := by
  have hk : Cm.chk (exC 3).e (exC 3).n (exC 3).l = 0 := exC_ok (by decide)
  unfold Wl.wapp
  rw [if_neg (by decide), if_neg (by intro h; exact h hk), if_pos (by left; decide)]

theorem lv_app2 : Wl.wapp lv1 (exC 2) = (0, lv2) := by
  have e : Wl.fr (exC 2) = exB 2 := exF 2 (by decide)
  have hk : Cm.chk (exC 2).e (exC 2).n (exC 2).l = 0 := exC_ok (by decide)
  unfold Wl.wapp
  rw [e, if_neg (by decide), if_neg (by intro h; exact h hk), if_neg (by decide)]
  rfl

theorem lv_b0 : WBig lv0 := big_new.mono (by decide) (by decide)
theorem lv_b1 : WBig lv1 := ⟨⟨fun f => by simp [lv1, Dm.bulk, exB], by simp [lv1], by simp [lv1]⟩, by simp [lv1]⟩
theorem lv_b2 : WBig lv2 := ⟨⟨fun f => by simp [lv2, Dm.bulk, exB], by simp [lv2], by simp [lv2]⟩, by simp [lv2]⟩

theorem lgb1 : Wl.lgb [exC 1] = exB 1 := by rw [Wl.lgb_one]; exact exF 1 (by decide)
theorem lgb2 : Wl.lgb [exC 1, exC 2] = exB 1 ++ exB 2 := by
  rw [show [exC 1, exC 2] = [exC 1] ++ [exC 2] from rfl, Wl.lgb_app, Wl.lgb_one, Wl.lgb_one]
  congr 1
  · exact exF 1 (by decide)
  · exact exF 2 (by decide)

theorem ex_good : Cm.Good 0 0 [exC 1, exC 2] := ⟨exC_ok (by decide), by decide, by decide, exC_ok (by decide), by decide, by decide, trivial⟩

/-- Behind the pull. -/
def lvd : Dm.Ds := (Dm.start (Dm.pull lv2.d).2 1 4).2

theorem lvd_is : lvd = ⟨Dm.upd (fun _ => []) 0 (exB 1 ++ [9, 1, 2, 1]), [], true, false, 0, 2⟩ := by
  have h : ∀ f, (lvd.sure f) = Dm.upd (fun _ => []) 0 (exB 1 ++ [9, 1, 2, 1]) f := fun f => by
    by_cases hf : f = 0
    · subst hf; rfl
    · simp [lvd, lv2, Dm.start, Dm.pull, Dm.dark, Dm.kept, Dm.dof, Dm.one, Dm.upd, hf]
  have : lvd.sure = Dm.upd (fun _ => []) 0 (exB 1 ++ [9, 1, 2, 1]) := funext h
  have e : lvd = ⟨lvd.sure, [], true, false, 0, 2⟩ := rfl
  rw [e, this]

theorem lvd_hld : Wl.hld lvd = exB 1 ++ [9, 1, 2, 1] := by rw [lvd_is]; rfl
theorem lvd_b : Big 100000000 800000 lvd := (big_start (big_pull lv_b2) 1 4).mono (by decide) (by decide)

theorem lvd_log {l : List Cm.Cv} (h : Wl.Lg 0 0 (Wl.hld lvd) l) : l = [exC 1] := by
  rw [lvd_hld] at h
  have h1 : [exC 1] <+: l := Wl.lg_has (Wl.good_cons.1 ex_good).1 (by rw [lgb1]; exact List.prefix_append _ _) h
  have h2 : l <+: [exC 1, exC 2] := Wl.lg_in ex_good (by rw [lgb2]; exact ⟨[1, 0, 1, 97, 1, 49].drop 0, by simp [exB]⟩) h
  have h3 := h.2.1.length_le
  obtain ⟨t, rfl⟩ := h1
  obtain ⟨u, hu⟩ := h2
  rcases t with _ | ⟨x, t⟩
  · rfl
  · exfalso
    simp only [List.cons_append, List.nil_append, List.cons.injEq, List.append_eq_nil_iff, true_and] at hu
    obtain ⟨rfl, rfl, _⟩ := hu
    rw [show [exC 1] ++ [exC 2] = [exC 1, exC 2] from rfl, lgb2] at h3
    simp [exB] at h3

theorem lvd_op {l : List Cm.Cv} (h : Wl.Lg 0 0 (Wl.hld lvd) l) : opE lvd l = 0 := by
  unfold opE
  rw [if_neg (by rw [lvd_is]; decide)]
  exact (Wl.trm_is (by rw [lvd_is]) (by rw [lvd_is]) h).1

theorem new_log {l : List Cm.Cv} (h : Wl.Lg 0 0 (Wl.hld Dm.new) l) : l = [] := Wl.lg_one h (Wl.lg_self (l := []) trivial)
theorem new_op : opE Dm.new [] = 0 ∧ opD Dm.new [] = Dm.new := ⟨rfl, rfl⟩

/-- Open of a new disk, seen from afar. -/
theorem wnew_any (w0 w : World) (q : Nat) (hq : w0.heap.size ≤ q) (h : Pk q (fun g => g = q) w Dm.new) (hb : Below w0.heap.size w0 w) :
    Calls Try.prog 9 #[.pointer (some ⟨q, 0, none⟩)] w fun E w' => ∃ p F, E = .returned (.tuple #[.pointer (some ⟨p, 0, none⟩), .int .i64 0]) ∧ WW p q F w' ⟨Dm.new, [], false⟩ ∧ (∀ g, F g → w0.heap.size ≤ g) ∧ Below w0.heap.size w0 w' := by
  refine (wopen_any q _ w Dm.new h (big_new.mono (by decide) (by decide))).mono ?_
  rintro E w' ⟨l, LG, PS, hc⟩
  have hl := new_log LG.out
  subst hl
  obtain ⟨F', k1, k2, k3⟩ := PS
  have hbs := hb.size
  rcases hc with ⟨h0, _⟩ | ⟨_, p, G, rfl, hw, hg⟩
  · exact absurd new_op.1 h0
  · refine ⟨p, _, rfl, ⟨F', G, k1, hw, rfl⟩, ?_, hb.trans (k2.below (fun g hg => by omega) hb.size)⟩
    rintro g (e | e)
    · rcases k3 g e with e | e
      · omega
      · omega
    · have := hg g e
      omega

theorem below_step {p q : Nat} {F : Nat → Prop} {w0 w w' : World} {s : Wl.Ws} (hb : Below w0.heap.size w0 w) (hF : ∀ g, F g → w0.heap.size ≤ g) (h : WStep p q F w w' s) : ∃ F', WW p q F' w' s ∧ (∀ g, F' g → w0.heap.size ≤ g) ∧ Below w0.heap.size w0 w' := by
  obtain ⟨F', h1, h2, h3⟩ := h
  have := hb.size
  refine ⟨F', h1, fun g hg => ?_, hb.trans (h2.below hF hb.size)⟩
  rcases h3 g hg with e | e
  · exact hF g e
  · omega

end Go.Proofs.Ytimmohpnlieefaa
