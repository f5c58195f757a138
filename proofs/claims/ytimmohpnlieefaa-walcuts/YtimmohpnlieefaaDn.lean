/- Disks, by mathematics: how much they hold. No program. -/
import Derived.Test.YtimmohpnlieefaaPw
namespace Go.Proofs.Ytimmohpnlieefaa
open Go.RowKit
set_option linter.unusedVariables false

/-- No more than t bytes, no more than u raw steps, a fuse that is a number. -/
def Big (t u : Nat) (st : Dm.Ds) : Prop := Dm.Sz t u st ∧ st.left ≤ 9223372036854775807

theorem Big.mono {t u t' u' : Nat} {st : Dm.Ds} (h : Big t u st) (ht : t ≤ t') (hu : u ≤ u') : Big t' u' st :=
  ⟨⟨fun f => Nat.le_trans (h.1.1 f) ht, Nat.le_trans h.1.2.1 hu, Nat.le_trans h.1.2.2 hu⟩, h.2⟩

theorem big_new : Big 0 0 Dm.new := ⟨⟨fun f => by simp [Dm.new, Dm.bulk], by simp [Dm.new], by simp [Dm.new]⟩, by simp [Dm.new]⟩

theorem big_dark {t u : Nat} {st : Dm.Ds} (h : Big t u st) : Big t u (Dm.dark st) := h

theorem big_burn {t u : Nat} {st : Dm.Ds} (h : Big t u st) : Big t (u + 1) (Dm.burn st) :=
  ⟨⟨h.1.1, Nat.le_trans h.1.2.1 (by omega), by show st.count + 1 ≤ u + 1; have := h.1.2.2; omega⟩, by show (if st.has then st.left - 1 else st.left) ≤ _; have := h.2; split <;> omega⟩

theorem big_push {t u : Nat} {st : Dm.Ds} (h : Big t u st) (r : Dm.Rw) : Big (t + r.bytes.length) (u + 1) (Dm.push (Dm.burn st) r) := by
  have hb := big_burn h
  refine ⟨⟨fun f => ?_, ?_, hb.1.2.2⟩, hb.2⟩
  · have h1 := h.1.1 f
    show (st.sure f).length + Dm.bulk (st.wait ++ [r]) ≤ _
    rw [Dm.bulk_app]
    simp only [Dm.bulk]
    omega
  · have h1 := h.1.2.1
    show (st.wait ++ [r]).length ≤ _
    rw [List.length_append]
    simp only [List.length_cons, List.length_nil]
    omega

theorem big_wrt (file : Nat) : ∀ (n : Nat) (bs : List Int) (t u : Nat) (st : Dm.Ds), Big t u st → Big (t + bs.length) (u + cnt bs.length) (Dm.wrt file n st bs).2
  | 0, bs, t, u, st, h => h.mono (by omega) (by omega)
  | n + 1, bs, t, u, st, h => by
    rw [Dm.wrt]
    by_cases hb : bs = []
    · rw [if_pos hb]; exact h.mono (by omega) (by omega)
    · rw [if_neg hb]
      have h1 : 0 < bs.length := List.length_pos_iff.2 hb
      split
      · exact (big_dark h).mono (by omega) (by omega)
      · have := big_wrt file n (bs.drop 64) _ _ _ (big_push h ⟨file, false, 0, bs.take 64⟩)
        refine this.mono ?_ ?_
        · simp only [List.length_take, List.length_drop]; omega
        · rw [List.length_drop]; unfold cnt; omega

theorem big_write {t u : Nat} {st : Dm.Ds} (h : Big t u st) (file : Int) (bs : List Int) : Big (t + bs.length) (u + cnt bs.length) (Dm.write st file bs).2 := by
  unfold Dm.write
  split
  · exact h.mono (by omega) (by omega)
  · split
    · exact h.mono (by omega) (by omega)
    · exact big_wrt _ _ _ _ _ _ h

theorem big_cut {t u : Nat} {st : Dm.Ds} (h : Big t u st) (file len : Int) : Big t (u + 1) (Dm.cutD st file len).2 := by
  unfold Dm.cutD
  split
  · exact h.mono (by omega) (by omega)
  · split
    · exact h.mono (by omega) (by omega)
    · split
      · exact h.mono (by omega) (by omega)
      · split
        · exact (big_dark h).mono (by omega) (by omega)
        · exact big_push h _

theorem big_flush {t u : Nat} {st : Dm.Ds} (h : Big t u st) : Big t u (Dm.flush st) :=
  ⟨⟨fun f => by
    have h1 := h.1.1 f
    have h2 := dof_len st.sure st.wait f
    show (Dm.dof st.sure st.wait f).length + 0 ≤ t
    omega, Nat.zero_le _, h.1.2.2⟩, h.2⟩

theorem big_sync {t u : Nat} {st : Dm.Ds} (h : Big t u st) : Big t (u + 1) (Dm.sync st).2 := by
  unfold Dm.sync
  split
  · exact h.mono (by omega) (by omega)
  · split
    · exact (big_dark h).mono (by omega) (by omega)
    · exact big_flush (big_burn h)

theorem big_fuse {t u : Nat} {st : Dm.Ds} (h : Big t u st) (n : Int) (hn : n ≤ 9223372036854775807) : Big t u (Dm.fuse st n).2 := by
  unfold Dm.fuse
  split
  · exact h
  · split
    · exact h
    · exact ⟨h.1, by show n.toNat ≤ _; omega⟩

theorem big_safe {t u : Nat} {st : Dm.Ds} (h : Big t u st) : Big t u (Dm.safe st).2 := by
  unfold Dm.safe
  split
  · exact h
  · exact h

theorem big_pull {t u : Nat} {st : Dm.Ds} (h : Big t u st) : Big t u (Dm.pull st).2 := by
  unfold Dm.pull
  split
  · exact h
  · exact h

theorem kept_len (st : Dm.Ds) (k t f : Nat) : (Dm.kept st k t f).length ≤ (st.sure f).length + Dm.bulk st.wait := by
  have h1 := dof_len st.sure (st.wait.take k) f
  have h2 := bulk_take st.wait k
  unfold Dm.kept
  cases hr : st.wait[k]? with
  | none => simp only []; omega
  | some r =>
    have h3 := bulk_at hr
    by_cases hc : r.cut = true
    · simp only [hc, if_true]; omega
    · simp only [hc]
      unfold Dm.one Dm.upd Dm.wth
      simp only [Bool.false_eq_true, if_false]
      by_cases e : f = r.file
      · rw [if_pos e, List.length_append, List.length_take, ← e]; omega
      · rw [if_neg e]; omega

theorem big_start {t u : Nat} {st : Dm.Ds} (h : Big t u st) (k j : Int) : Big t u (Dm.start st k j).2 := by
  unfold Dm.start
  split
  · exact h
  · refine ⟨⟨fun f => ?_, Nat.zero_le _, h.1.2.2⟩, h.2⟩
    have h1 := kept_len st k.toNat j.toNat f
    have h2 := h.1.1 f
    show (Dm.kept st k.toNat j.toNat f).length + 0 ≤ t
    omega

end Go.Proofs.Ytimmohpnlieefaa
