/- The chapter's own lines and texts (layer 25). No program. -/
import Derived.Test.YtgcdibglkbfjdaaGreatDoorSxl
import Derived.Lib.Repeat
namespace Go.Proofs.YtgcdibglkbfjdaaGreatDoor
set_option linter.unusedVariables false
set_option maxRecDepth 100000

theorem not_rem {s : List UInt8} {b : Sct.Av} (ht : Sct.txt b = Sct.wds s) : ¬ Sct.Rem s := by
  rintro (h | ⟨w, r, h, h1⟩)
  · rw [← ht] at h
    exact absurd h (List.cons_ne_nil _ _)
  · rw [← ht] at h
    unfold Sct.txt at h
    rw [List.cons.injEq] at h
    rw [← h.1] at h1
    exact (Sct.nm_word b.k).2.2.2 h1

theorem lrp_yes {s : List UInt8} {a b : Sct.Av} {th : Bool} {e : Int} (h : LRp s a th e) (hs : s.length ≤ 65536) (hb : Sct.Ok b) (ht : Sct.txt b = Sct.wds s) : a = b ∧ th = true ∧ e = 0 := by
  rcases h with ⟨h1, _⟩ | ⟨_, h2, _⟩ | ⟨_, _, h3, h4, rfl, rfl⟩ | ⟨_, _, h3, _⟩
  · omega
  · exact absurd h2 (not_rem ht)
  · exact ⟨Sct.txt_inj h3 hb (h4.trans ht.symm), rfl, rfl⟩
  · exact absurd ht (h3 b hb)
theorem lrp_none {s : List UInt8} {a : Sct.Av} {th : Bool} {e : Int} (h : LRp s a th e) (hs : s.length ≤ 65536) (hr : Sct.Rem s) : a = Sct.no ∧ th = false ∧ e = 0 := by
  rcases h with ⟨h1, _⟩ | ⟨_, _, h⟩ | ⟨_, h2, _⟩ | ⟨_, h2, _⟩
  · omega
  · exact h
  · exact absurd hr h2
  · exact absurd hr h2
theorem lrp_bad {s : List UInt8} {a : Sct.Av} {th : Bool} {e : Int} (h : LRp s a th e) (hs : s.length ≤ 65536) (hr : ¬ Sct.Rem s) (hn : ∀ b, Sct.Ok b → Sct.txt b ≠ Sct.wds s) : a = Sct.no ∧ th = false ∧ e = 350 := by
  rcases h with ⟨h1, _⟩ | ⟨_, h2, _⟩ | ⟨_, _, h3, h4, _⟩ | ⟨_, _, _, h⟩
  · omega
  · exact absurd h2 hr
  · exact absurd h4 (hn a h3)
  · exact h

/-- The acts of the examples. -/
def axC : Sct.Av := ⟨1, 0, 0, 0, ⟨#[]⟩, [⟨true, ⟨#[97]⟩, ⟨#[49]⟩⟩, ⟨false, ⟨#[98]⟩, ⟨#[]⟩⟩]⟩
def axS : Sct.Av := ⟨11, 1, 2, 3, ⟨#[]⟩, []⟩
def axR : Sct.Av := ⟨12, 0, 0, 0, ⟨#[]⟩, []⟩
def axT : Sct.Av := ⟨3, 0, 0, 0, ⟨#[]⟩, []⟩
def axA : Sct.Av := ⟨2, 1, 0, 0, ⟨#[97, 32]⟩, []⟩
theorem ok_axC : Sct.Ok axC := ⟨by decide, by decide, by decide, by decide, by decide, by decide, by decide, by rfl, by rfl⟩
theorem ok_axS : Sct.Ok axS := ⟨by decide, by decide, by decide, by decide, by decide, by decide, by decide, by rfl, by rfl⟩
theorem ok_axR : Sct.Ok axR := ⟨by decide, by decide, by decide, by decide, by decide, by decide, by decide, by rfl, by rfl⟩
theorem ok_axT : Sct.Ok axT := ⟨by decide, by decide, by decide, by decide, by decide, by decide, by decide, by rfl, by rfl⟩
theorem ok_axA : Sct.Ok axA := ⟨by decide, by decide, by decide, by decide, by decide, by decide, by decide, by rfl, by rfl⟩

theorem tx_axC : Sct.txt axC = Sct.wds [99, 111, 109, 109, 105, 116, 32, 48, 32, 112, 117, 116, 32, 97, 32, 49, 32, 100, 101, 108, 32, 98] := by decide
theorem tx_axS : Sct.txt axS = Sct.wds [115, 116, 97, 114, 116, 32, 49, 32, 50, 32, 51] := by decide
theorem tx_axR : Sct.txt axR = Sct.wds [32, 32, 114, 111, 117, 110, 100, 32] := by decide
theorem tx_axR' : Sct.txt axR = Sct.wds [114, 111, 117, 110, 100] := by decide
theorem tx_axT : Sct.txt axT = Sct.wds [116, 105, 99, 107, 32, 48] := by decide

/-- A line whose first word is a kind's. -/
theorem kind_tail {b : Sct.Av} {k : Int} {w : List UInt8} {r : List (List UInt8)} (hb : Sct.Ok b) (hk : 1 ≤ k ∧ k ≤ 12) (hw : Sct.nm k = w) (h : Sct.txt b = w :: r) : b.k = k ∧ Sct.tail b = r := by
  unfold Sct.txt at h
  rw [List.cons.injEq, ← hw] at h
  exact ⟨Sct.nm_inj hb.k hk h.1, h.2⟩

theorem bad_tick {b : Sct.Av} {r : List (List UInt8)} (hb : Sct.Ok b) (h0 : r ≠ [[48]]) (h1 : r ≠ [[49]]) : Sct.txt b ≠ [116, 105, 99, 107] :: r := fun h => by
  obtain ⟨hk, ht⟩ := kind_tail hb (k := 3) (by decide) rfl h
  have e : Sct.tail b = [Sct.dg b.u.toNat] := by unfold Sct.tail; rw [hk]; rfl
  obtain ⟨u0, u1⟩ := hb.u
  have hu : b.u = 0 ∨ b.u = 1 := by omega
  rcases hu with hu | hu
  · rw [e, hu] at ht
    exact h0 (ht.symm.trans (by decide))
  · rw [e, hu] at ht
    exact h1 (ht.symm.trans (by decide))
theorem bad_two {b : Sct.Av} (hb : Sct.Ok b) : Sct.txt b ≠ Sct.wds [116, 105, 99, 107, 32, 50] := by
  rw [show Sct.wds [116, 105, 99, 107, 32, 50] = [[116, 105, 99, 107], [50]] by decide]
  exact bad_tick hb (by decide) (by decide)
theorem bad_one {b : Sct.Av} (hb : Sct.Ok b) : Sct.txt b ≠ Sct.wds [116, 105, 99, 107, 32, 48, 49] := by
  rw [show Sct.wds [116, 105, 99, 107, 32, 48, 49] = [[116, 105, 99, 107], [48, 49]] by decide]
  exact bad_tick hb (by decide) (by decide)
theorem bad_end {b : Sct.Av} (hb : Sct.Ok b) : Sct.txt b ≠ Sct.wds [116, 105, 99, 107, 32, 48, 10] := by
  rw [show Sct.wds [116, 105, 99, 107, 32, 48, 10] = [[116, 105, 99, 107], [48, 10]] by decide]
  exact bad_tick hb (by decide) (by decide)
theorem bad_word {b : Sct.Av} {w : List UInt8} {r : List (List UInt8)} (hw : ∀ k, Sct.nm k ≠ w) : Sct.txt b ≠ w :: r := fun h => by
  unfold Sct.txt at h
  rw [List.cons.injEq] at h
  exact hw _ h.1
theorem bad_big {b : Sct.Av} (hb : Sct.Ok b) : Sct.txt b ≠ Sct.wds [84, 105, 99, 107, 32, 48] := by
  rw [show Sct.wds [84, 105, 99, 107, 32, 48] = [[84, 105, 99, 107], [48]] by decide]
  refine bad_word fun k => ?_
  unfold Sct.nm
  repeat' split
  all_goals decide
theorem bad_tock {b : Sct.Av} (hb : Sct.Ok b) : Sct.txt b ≠ Sct.wds [116, 111, 99, 107, 32, 48] := by
  rw [show Sct.wds [116, 111, 99, 107, 32, 48] = [[116, 111, 99, 107], [48]] by decide]
  refine bad_word fun k => ?_
  unfold Sct.nm
  repeat' split
  all_goals decide
theorem bad_round {b : Sct.Av} (hb : Sct.Ok b) : Sct.txt b ≠ Sct.wds [114, 111, 117, 110, 100, 32, 49] := fun h => by
  rw [show Sct.wds [114, 111, 117, 110, 100, 32, 49] = [[114, 111, 117, 110, 100], [49]] by decide] at h
  obtain ⟨hk, ht⟩ := kind_tail hb (k := 12) (by decide) rfl h
  have e : Sct.tail b = [] := by unfold Sct.tail; rw [hk]; rfl
  rw [e] at ht
  exact absurd ht.symm (List.cons_ne_nil _ _)
theorem bad_deliver {b : Sct.Av} (hb : Sct.Ok b) : Sct.txt b ≠ Sct.wds [100, 101, 108, 105, 118, 101, 114, 32, 45, 49] := fun h => by
  rw [show Sct.wds [100, 101, 108, 105, 118, 101, 114, 32, 45, 49] = [[100, 101, 108, 105, 118, 101, 114], [45, 49]] by decide] at h
  obtain ⟨hk, ht⟩ := kind_tail hb (k := 6) (by decide) rfl h
  have e : Sct.tail b = [Sct.dg b.n.toNat] := by unfold Sct.tail; rw [hk]; rfl
  rw [e, List.cons.injEq] at ht
  have := (Sct.dg_all (n := b.n.toNat) (by have := hb.n; omega)).1 45 (by rw [ht.1]; simp)
  exact absurd this.1 (by decide)
theorem bad_commit {b : Sct.Av} {r : List (List UInt8)} (hb : Sct.Ok b) (hr : r = [] ∨ r = [[112, 117, 116], [97]]) : Sct.txt b ≠ [99, 111, 109, 109, 105, 116] :: [48] :: r := fun h => by
  obtain ⟨hk, ht⟩ := kind_tail hb (k := 1) (by decide) rfl h
  have e : Sct.tail b = Sct.dg b.u.toNat :: Sct.opw b.ops := by unfold Sct.tail; rw [hk]; rfl
  rw [e, List.cons.injEq] at ht
  have ho := hb.ops
  rw [show Sct.ho b.k = true by rw [hk]; decide] at ho
  obtain ⟨h1, _, _⟩ := Bm.chkL_zero ho
  obtain ⟨o, m, hom⟩ : ∃ o m, b.ops = o :: m := by
    cases hx : b.ops with
    | nil => rw [hx] at h1; simp at h1
    | cons o m => exact ⟨o, m, rfl⟩
  have h2 := ht.2
  rw [hom] at h2
  simp only [Sct.opw] at h2
  rcases hr with rfl | rfl
  · split at h2 <;> exact absurd h2 (List.cons_ne_nil _ _)
  · split at h2
    · have := congrArg List.length h2
      simp at this
    · rw [List.cons_append, List.cons.injEq] at h2
      exact absurd h2.1 (by decide)
theorem bad_bare {b : Sct.Av} (hb : Sct.Ok b) : Sct.txt b ≠ Sct.wds [99, 111, 109, 109, 105, 116, 32, 48] := by
  rw [show Sct.wds [99, 111, 109, 109, 105, 116, 32, 48] = [[99, 111, 109, 109, 105, 116], [48]] by decide]
  exact bad_commit hb (.inl rfl)
theorem bad_put {b : Sct.Av} (hb : Sct.Ok b) : Sct.txt b ≠ Sct.wds [99, 111, 109, 109, 105, 116, 32, 48, 32, 112, 117, 116, 32, 97] := by
  rw [show Sct.wds [99, 111, 109, 109, 105, 116, 32, 48, 32, 112, 117, 116, 32, 97] = [[99, 111, 109, 109, 105, 116], [48], [112, 117, 116], [97]] by decide]
  exact bad_commit hb (.inr rfl)

theorem rem_no {s : List UInt8} {w : List UInt8} {r : List (List UInt8)} (h : Sct.wds s = w :: r) (hw : w.head? ≠ some 35) : ¬ Sct.Rem s := by
  rintro (h1 | ⟨x, y, h1, h2⟩)
  · rw [h] at h1; exact absurd h1 (List.cons_ne_nil _ _)
  · rw [h, List.cons.injEq] at h1
    rw [h1.1] at hw
    exact hw h2

theorem lres_yes {s : List UInt8} {b : Sct.Av} (hs : s.length ≤ 65536) (h10 : (10 : UInt8) ∉ s) (hb : Sct.Ok b) (ht : Sct.txt b = Sct.wds s) : Sct.LRes s b true 0 := .inr (.inr (.inl ⟨hs, h10, not_rem ht, hb, ht, rfl, rfl⟩))

/-- "tick 0\ntock 0". -/
theorem pres_tock : Sct.PRes [116, 105, 99, 107, 32, 48, 10, 116, 111, 99, 107, 32, 48] [] 1 350 := by
  refine .inr ⟨by decide, ?_⟩
  rw [show Sct.lns [116, 105, 99, 107, 32, 48, 10, 116, 111, 99, 107, 32, 48] = [[116, 105, 99, 107, 32, 48], [116, 111, 99, 107, 32, 48]] by decide]
  refine ⟨axT, true, 0, lres_yes (by decide) (by decide) ok_axT tx_axT, .inr (.inr (.inl ⟨rfl, rfl, by decide, ?_⟩))⟩
  exact ⟨Sct.no, false, 350, .inr (.inr (.inr ⟨by decide, .inr ⟨rem_no (show Sct.wds [116, 111, 99, 107, 32, 48] = [[116, 111, 99, 107], [48]] by decide) (by decide), fun b hb => bad_tock hb⟩, rfl, rfl, rfl⟩)), .inl ⟨by decide, rfl, rfl, rfl⟩⟩

theorem lres_round : Sct.LRes [114, 111, 117, 110, 100] axR true 0 := lres_yes (by decide) (by decide) ok_axR tx_axR'
theorem lns_rounds : ∀ n : Nat, Sct.lns (Lib.repeatL [114, 111, 117, 110, 100, 10] n) = List.replicate n [114, 111, 117, 110, 100]
  | 0 => by rfl
  | n + 1 => by
    rw [List.replicate_succ, ← lns_rounds n]
    rfl
theorem pgo_rounds : ∀ (n i : Nat) (acc out : List Sct.Av) (p e : Int) (rest : List (List UInt8)), acc.length + n ≤ 200 → Sct.PGo rest (i + n) (acc ++ List.replicate n axR) out p e → Sct.PGo (List.replicate n [114, 111, 117, 110, 100] ++ rest) i acc out p e
  | 0, i, acc, out, p, e, rest, h, k => by simpa using k
  | n + 1, i, acc, out, p, e, rest, h, k => by
    rw [List.replicate_succ, List.cons_append]
    refine ⟨axR, true, 0, lres_round, .inr (.inr (.inl ⟨rfl, rfl, by omega, ?_⟩))⟩
    refine pgo_rounds n (i + 1) (acc ++ [axR]) out p e rest (by simp only [List.length_append, List.length_cons, List.length_nil]; omega) ?_
    rw [List.append_assoc, show i + 1 + n = i + (n + 1) by omega]
    rw [List.replicate_succ] at k
    exact k
/-- 200 rounds, and one more. -/
theorem pres_200 : Sct.PRes (Lib.repeatL [114, 111, 117, 110, 100, 10] 200) (List.replicate 200 axR) 0 0 := by
  refine .inr ⟨by rw [Lib.repeatL_length]; decide, ?_⟩
  rw [lns_rounds]
  have := pgo_rounds 200 0 [] (List.replicate 200 axR) 0 0 [] (by decide) ⟨by simp, rfl, rfl⟩
  rwa [List.append_nil] at this
theorem pres_201 : Sct.PRes (Lib.repeatL [114, 111, 117, 110, 100, 10] 201) [] 200 3 := by
  refine .inr ⟨by rw [Lib.repeatL_length]; decide, ?_⟩
  rw [lns_rounds, show List.replicate 201 [(114 : UInt8), 111, 117, 110, 100] = List.replicate 200 [114, 111, 117, 110, 100] ++ [[114, 111, 117, 110, 100]] from List.replicate_succ']
  refine pgo_rounds 200 0 [] [] 200 3 _ (by decide) ?_
  exact ⟨axR, true, 0, lres_round, .inr (.inl ⟨rfl, rfl, by simp, rfl, by omega, rfl⟩)⟩
theorem pres_long : Sct.PRes (Lib.repeatL [120] 65537) [] (-1) 3 := .inl ⟨by rw [Lib.repeatL_length]; decide, rfl, rfl, rfl⟩

/-- "read 1 a\20\n". -/
theorem prn_axA : Sct.prn [axA] = [114, 101, 97, 100, 32, 49, 32, 97, 92, 50, 48, 10] := by decide
theorem prr_axA {s : List UInt8} {p e : Int} (h : Sct.PrRes [axA] s p e) : s = [114, 101, 97, 100, 32, 49, 32, 97, 92, 50, 48, 10] ∧ e = 0 := by
  rcases h with ⟨h1, _⟩ | ⟨_, _, _, i, _, _, a, ha, hn⟩ | ⟨_, _, h1, _⟩ | ⟨_, _, _, h1, _, h2⟩
  · simp at h1
  · match i, ha with
    | 0, ha =>
      rw [← Option.some.inj (show some axA = some a from ha)] at hn
      exact absurd ok_axA hn
    | i + 1, ha => simp at ha
  · rw [prn_axA] at h1
    simp at h1
  · exact ⟨h1.trans prn_axA, h2⟩

end Go.Proofs.YtgcdibglkbfjdaaGreatDoor
