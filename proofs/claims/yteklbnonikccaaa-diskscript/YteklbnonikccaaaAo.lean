/- Pick, told by its number; a disk with a fuse, by mathematics. -/
import Derived.Test.YteklbnonikccaaaAn
namespace Go.Proofs.Yteklbnonikccaaa
open Go.RowKit
set_option linter.unusedVariables false

def pk (x n : Int) : Int := if x.tmod n < 0 then x.tmod n + n else x.tmod n

theorem pk_lt (x n : Int) (hn : 0 < n) : 0 ≤ pk x n ∧ pk x n < n := by
  have ht1 : x.tmod n < n := Int.tmod_lt_of_pos x hn
  have ht2 : -n < x.tmod n := Int.lt_tmod_of_pos x hn
  unfold pk
  split <;> omega

set_option maxHeartbeats 400000 in
theorem pickx_any (x n : Int) (w : World) (hn : 0 < n) (hn2 : n < 9223372036854775808) (hx : I64 x) :
    Calls Try.prog 30 #[.int .i64 x, .int .i64 n] w fun e w' => e = .returned (.int .i64 (pk x n)) ∧ w = w' := by
  have hnz : (n == 0) = false := by simp; omega
  obtain ⟨hx1, hx2⟩ := hx
  have ht1 : x.tmod n < n := Int.tmod_lt_of_pos x hn
  have ht2 : -n < x.tmod n := Int.lt_tmod_of_pos x hn
  by_cases h : x.tmod n < 0
  · have e : pk x n = x.tmod n + n := by simp [pk, h]
    rw [e]
    clear e
    go_enter Try.func30, Try.ntmps30
    go_wp2
    go_ret
    exact ⟨ret_i64 (by omega), rfl⟩
  · have e : pk x n = x.tmod n := by simp [pk, h]
    rw [e]
    clear e
    go_enter Try.func30, Try.ntmps30
    go_wp2
    go_ret
    exact ⟨ret_i64 (by omega), rfl⟩

/-- A disk that had a fuse of n. -/
def FI (n : Nat) (st : Dm.Ds) : Prop := st.has = true ∧ ((st.on = true ∧ st.left + st.count = n) ∨ (st.on = false ∧ st.count = n))

/-- What a raw step, or some, may come to. -/
def FP (n : Nat) (st : Dm.Ds) (r : Int × Dm.Ds) : Prop := FI n r.2 ∧ ((r.1 = 0 ∧ r.2.on = true) ∨ (r.1 = 2 ∧ r.2.on = true ∧ r.2.count = st.count) ∨ (r.1 = 6 ∧ r.2.on = false))

theorem FI.le {n : Nat} {st : Dm.Ds} (h : FI n st) : st.count ≤ n := by
  rcases h.2 with ⟨_, h⟩ | ⟨_, h⟩ <;> omega

theorem fi_dark {n : Nat} {st : Dm.Ds} (h : FI n st) (hon : st.on = true) (ho : Dm.off st = true) : FI n (Dm.dark st) := by
  obtain ⟨h1, ⟨h2, h3⟩ | ⟨h2, _⟩⟩ := h
  · simp [Dm.off] at ho
    exact ⟨h1, .inr ⟨rfl, by show st.count = n; omega⟩⟩
  · rw [hon] at h2; cases h2

theorem fi_burn {n : Nat} {st : Dm.Ds} (h : FI n st) (hon : st.on = true) (ho : Dm.off st = false) : (Dm.burn st).has = true ∧ (Dm.burn st).on = true ∧ (Dm.burn st).left + (Dm.burn st).count = n := by
  obtain ⟨h1, ⟨h2, h3⟩ | ⟨h2, _⟩⟩ := h
  · simp [Dm.off, h1] at ho
    refine ⟨h1, hon, ?_⟩
    show (if st.has then st.left - 1 else st.left) + (st.count + 1) = n
    rw [if_pos h1]
    omega
  · rw [hon] at h2; cases h2

theorem fp_off {n : Nat} {st : Dm.Ds} (h : FI n st) (hon : st.on = false) : FP n st (6, st) := ⟨h, .inr (.inr ⟨rfl, hon⟩)⟩
theorem fp_arg {n : Nat} {st : Dm.Ds} (h : FI n st) (hon : st.on = true) : FP n st (2, st) := ⟨h, .inr (.inl ⟨rfl, hon, rfl⟩)⟩

theorem fp_wrt (file n : Nat) : ∀ (m : Nat) (bs : List Int) (st : Dm.Ds), FI n st → st.on = true → FI n (Dm.wrt file m st bs).2 ∧ (((Dm.wrt file m st bs).1 = 0 ∧ (Dm.wrt file m st bs).2.on = true) ∨ ((Dm.wrt file m st bs).1 = 6 ∧ (Dm.wrt file m st bs).2.on = false))
  | 0, bs, st, h, hon => ⟨h, .inl ⟨rfl, hon⟩⟩
  | m + 1, bs, st, h, hon => by
    rw [Dm.wrt]
    by_cases hb : bs = []
    · rw [if_pos hb]; exact ⟨h, .inl ⟨rfl, hon⟩⟩
    · rw [if_neg hb]
      cases ho : Dm.off st
      · rw [if_neg (by simp)]
        obtain ⟨h1, h2, h3⟩ := fi_burn h hon ho
        exact fp_wrt file n m (bs.drop 64) _ ⟨h1, .inl ⟨h2, h3⟩⟩ h2
      · rw [if_pos rfl]
        exact ⟨fi_dark h hon ho, .inr ⟨rfl, rfl⟩⟩

theorem fp_write {n : Nat} {st : Dm.Ds} (h : FI n st) (file : Int) (bs : List Int) : FP n st (Dm.write st file bs) := by
  unfold Dm.write
  cases hon : st.on
  · rw [if_pos rfl]; exact fp_off h hon
  · rw [if_neg (by simp)]
    split
    · exact fp_arg h hon
    · obtain ⟨h1, h2⟩ := fp_wrt file.toNat n bs.length bs st h hon
      exact ⟨h1, h2.elim .inl fun h => .inr (.inr h)⟩

theorem fp_cut {n : Nat} {st : Dm.Ds} (h : FI n st) (file len : Int) : FP n st (Dm.cutD st file len) := by
  unfold Dm.cutD
  cases hon : st.on
  · rw [if_pos rfl]; exact fp_off h hon
  · rw [if_neg (by simp)]
    split
    · exact fp_arg h hon
    · split
      · exact fp_arg h hon
      · cases ho : Dm.off st
        · rw [if_neg (by simp)]
          obtain ⟨h1, h2, h3⟩ := fi_burn h hon ho
          exact ⟨⟨h1, .inl ⟨h2, h3⟩⟩, .inl ⟨rfl, h2⟩⟩
        · rw [if_pos rfl]
          exact ⟨fi_dark h hon ho, .inr (.inr ⟨rfl, rfl⟩)⟩

theorem fp_sync {n : Nat} {st : Dm.Ds} (h : FI n st) : FP n st (Dm.sync st) := by
  unfold Dm.sync
  cases hon : st.on
  · rw [if_pos rfl]; exact fp_off h hon
  · rw [if_neg (by simp)]
    cases ho : Dm.off st
    · rw [if_neg (by simp)]
      obtain ⟨h1, h2, h3⟩ := fi_burn h hon ho
      exact ⟨⟨h1, .inl ⟨h2, h3⟩⟩, .inl ⟨rfl, h2⟩⟩
    · rw [if_pos rfl]
      exact ⟨fi_dark h hon ho, .inr (.inr ⟨rfl, rfl⟩)⟩

/-- A disk that is on, without a fuse: a sync is done. -/
theorem sync_free {st : Dm.Ds} (h1 : st.on = true) (h2 : st.has = false) : (Dm.sync st).1 = 0 ∧ (Dm.sync st).2.on = true ∧ (Dm.sync st).2.has = false ∧ (Dm.sync st).2.wait.length = 0 := by
  have : Dm.off st = false := by simp [Dm.off, h2]
  simp [Dm.sync, h1, this, Dm.flush, Dm.burn, h2]

theorem cnt_small {n : Nat} (h : n ≤ 400) : cnt n ≤ 7 := by unfold cnt; omega

end Go.Proofs.Yteklbnonikccaaa
