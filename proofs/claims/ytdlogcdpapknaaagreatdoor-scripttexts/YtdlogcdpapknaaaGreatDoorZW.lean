/- Texts of one layer, one behind the other. -/
import Derived.Test.YtdlogcdpapknaaaGreatDoorSxl
import Derived.Lib.Repeat
import Derived.Test.YtdlogcdpapknaaaGreatDoorSxv
/- The chapter's own lines and texts (layer 25). No program. -/
namespace Go.Proofs.YtdlogcdpapknaaaGreatDoor
set_option linter.unusedVariables false
set_option maxRecDepth 100000

theorem not_rem {s : List UInt8} {b : Sct.Av} (ht : Sct.txt b = Sct.wds s) : ¬ Sct.Rem s := by
  rintro (h | ⟨w, r, h, h1⟩)
  · rw [← ht] at h
    exact absurd h (List.cons_ne_nil _ _)
  · rw [← ht] at h
    unfold Sct.txt at h
    rw [List.cons.injEq] at h
    rw [← h.1] at h1
    exact (Sct.nm_word b.k).2.2.2 h1

theorem lrp_yes {s : List UInt8} {a b : Sct.Av} {th : Bool} {e : Int} (h : LRp s a th e) (hs : s.length ≤ 65536) (hb : Sct.Ok b) (ht : Sct.txt b = Sct.wds s) : a = b ∧ th = true ∧ e = 0 := by
  rcases h with ⟨h1, _⟩ | ⟨_, h2, _⟩ | ⟨_, _, h3, h4, rfl, rfl⟩ | ⟨_, _, h3, _⟩
  · omega
  · exact absurd h2 (not_rem ht)
  · exact ⟨Sct.txt_inj h3 hb (h4.trans ht.symm), rfl, rfl⟩
  · exact absurd ht (h3 b hb)
theorem lrp_none {s : List UInt8} {a : Sct.Av} {th : Bool} {e : Int} (h : LRp s a th e) (hs : s.length ≤ 65536) (hr : Sct.Rem s) : a = Sct.no ∧ th = false ∧ e = 0 := by
  rcases h with ⟨h1, _⟩ | ⟨_, _, h⟩ | ⟨_, h2, _⟩ | ⟨_, h2, _⟩
  · omega
  · exact h
  · exact absurd hr h2
  · exact absurd hr h2
theorem lrp_bad {s : List UInt8} {a : Sct.Av} {th : Bool} {e : Int} (h : LRp s a th e) (hs : s.length ≤ 65536) (hr : ¬ Sct.Rem s) (hn : ∀ b, Sct.Ok b → Sct.txt b ≠ Sct.wds s) : a = Sct.no ∧ th = false ∧ e = 350 := by
  rcases h with ⟨h1, _⟩ | ⟨_, h2, _⟩ | ⟨_, _, h3, h4, _⟩ | ⟨_, _, _, h⟩
  · omega
  · exact absurd h2 hr
  · exact absurd h4 (hn a h3)
  · exact h

/-- The acts of the examples. -/
def axC : Sct.Av := ⟨1, 0, 0, 0, ⟨#[]⟩, [⟨true, ⟨#[97]⟩, ⟨#[49]⟩⟩, ⟨false, ⟨#[98]⟩, ⟨#[]⟩⟩]⟩
def axS : Sct.Av := ⟨11, 1, 2, 3, ⟨#[]⟩, []⟩
def axR : Sct.Av := ⟨12, 0, 0, 0, ⟨#[]⟩, []⟩
def axT : Sct.Av := ⟨3, 0, 0, 0, ⟨#[]⟩, []⟩
def axA : Sct.Av := ⟨2, 1, 0, 0, ⟨#[97, 32]⟩, []⟩
theorem ok_axC : Sct.Ok axC := ⟨by decide, by decide, by decide, by decide, by decide, by decide, by decide, by rfl, by rfl⟩
theorem ok_axS : Sct.Ok axS := ⟨by decide, by decide, by decide, by decide, by decide, by decide, by decide, by rfl, by rfl⟩
theorem ok_axR : Sct.Ok axR := ⟨by decide, by decide, by decide, by decide, by decide, by decide, by decide, by rfl, by rfl⟩
theorem ok_axT : Sct.Ok axT := ⟨by decide, by decide, by decide, by decide, by decide, by decide, by decide, by rfl, by rfl⟩
theorem ok_axA : Sct.Ok axA := ⟨by decide, by decide, by decide, by decide, by decide, by decide, by decide, by rfl, by rfl⟩

theorem tx_axC : Sct.txt axC = Sct.wds [99, 111, 109, 109, 105, 116, 32, 48, 32, 112, 117, 116, 32, 97, 32, 49, 32, 100, 101, 108, 32, 98] := by decide
theorem tx_axS : Sct.txt axS = Sct.wds [115, 116, 97, 114, 116, 32, 49, 32, 50, 32, 51] := by decide
theorem tx_axR : Sct.txt axR = Sct.wds [32, 32, 114, 111, 117, 110, 100, 32] := by decide
theorem tx_axR' : Sct.txt axR = Sct.wds [114, 111, 117, 110, 100] := by decide
theorem tx_axT : Sct.txt axT = Sct.wds [116, 105, 99, 107, 32, 48] := by decide

/-- A line whose first word is a kind's. -/
theorem kind_tail {b : Sct.Av} {k : Int} {w : List UInt8} {r : List (List UInt8)} (hb : Sct.Ok b) (hk : 1 ≤ k ∧ k ≤ 12) (hw : Sct.nm k = w) (h : Sct.txt b = w :: r) : b.k = k ∧ Sct.tail b = r := by
  unfold Sct.txt at h
  rw [List.cons.injEq, ← hw] at h
  exact ⟨Sct.nm_inj hb.k hk h.1, h.2⟩

theorem bad_tick {b : Sct.Av} {r : List (List UInt8)} (hb : Sct.Ok b) (h0 : r ≠ [[48]]) (h1 : r ≠ [[49]]) : Sct.txt b ≠ [116, 105, 99, 107] :: r := fun h => by
  obtain ⟨hk, ht⟩ := kind_tail hb (k := 3) (by decide) rfl h
  have e : Sct.tail b = [Sct.dg b.u.toNat] := by unfold Sct.tail; rw [hk]; rfl
  obtain ⟨u0, u1⟩ := hb.u
  have hu : b.u = 0 ∨ b.u = 1 := by omega
  rcases hu with hu | hu
  · rw [e, hu] at ht
    exact h0 (ht.symm.trans (by decide))
  · rw [e, hu] at ht
    exact h1 (ht.symm.trans (by decide))
theorem bad_two {b : Sct.Av} (hb : Sct.Ok b) : Sct.txt b ≠ Sct.wds [116, 105, 99, 107, 32, 50] := by
  rw [show Sct.wds [116, 105, 99, 107, 32, 50] = [[116, 105, 99, 107], [50]] by decide]
  exact bad_tick hb (by decide) (by decide)
theorem bad_one {b : Sct.Av} (hb : Sct.Ok b) : Sct.txt b ≠ Sct.wds [116, 105, 99, 107, 32, 48, 49] := by
  rw [show Sct.wds [116, 105, 99, 107, 32, 48, 49] = [[116, 105, 99, 107], [48, 49]] by decide]
  exact bad_tick hb (by decide) (by decide)
theorem bad_end {b : Sct.Av} (hb : Sct.Ok b) : Sct.txt b ≠ Sct.wds [116, 105, 99, 107, 32, 48, 10] := by
  rw [show Sct.wds [116, 105, 99, 107, 32, 48, 10] = [[116, 105, 99, 107], [48, 10]] by decide]
  exact bad_tick hb (by decide) (by decide)
theorem bad_word {b : Sct.Av} {w : List UInt8} {r : List (List UInt8)} (hw : ∀ k, Sct.nm k ≠ w) : Sct.txt b ≠ w :: r := fun h => by
  unfold Sct.txt at h
  rw [List.cons.injEq] at h
  exact hw _ h.1
theorem bad_big {b : Sct.Av} (hb : Sct.Ok b) : Sct.txt b ≠ Sct.wds [84, 105, 99, 107, 32, 48] := by
  rw [show Sct.wds [84, 105, 99, 107, 32, 48] = [[84, 105, 99, 107], [48]] by decide]
  refine bad_word fun k => ?_
  unfold Sct.nm
  repeat' split
  all_goals decide
theorem bad_tock {b : Sct.Av} (hb : Sct.Ok b) : Sct.txt b ≠ Sct.wds [116, 111, 99, 107, 32, 48] := by
  rw [show Sct.wds [116, 111, 99, 107, 32, 48] = [[116, 111, 99, 107], [48]] by decide]
  refine bad_word fun k => ?_
  unfold Sct.nm
  repeat' split
  all_goals decide
theorem bad_round {b : Sct.Av} (hb : Sct.Ok b) : Sct.txt b ≠ Sct.wds [114, 111, 117, 110, 100, 32, 49] := fun h => by
  rw [show Sct.wds [114, 111, 117, 110, 100, 32, 49] = [[114, 111, 117, 110, 100], [49]] by decide] at h
  obtain ⟨hk, ht⟩ := kind_tail hb (k := 12) (by decide) rfl h
  have e : Sct.tail b = [] := by unfold Sct.tail; rw [hk]; rfl
  rw [e] at ht
  exact absurd ht.symm (List.cons_ne_nil _ _)
theorem bad_deliver {b : Sct.Av} (hb : Sct.Ok b) : Sct.txt b ≠ Sct.wds [100, 101, 108, 105, 118, 101, 114, 32, 45, 49] := fun h => by
  rw [show Sct.wds [100, 101, 108, 105, 118, 101, 114, 32, 45, 49] = [[100, 101, 108, 105, 118, 101, 114], [45, 49]] by decide] at h
  obtain ⟨hk, ht⟩ := kind_tail hb (k := 6) (by decide) rfl h
  have e : Sct.tail b = [Sct.dg b.n.toNat] := by unfold Sct.tail; rw [hk]; rfl
  rw [e, List.cons.injEq] at ht
  have := (Sct.dg_all (n := b.n.toNat) (by have := hb.n; omega)).1 45 (by rw [ht.1]; simp)
  exact absurd this.1 (by decide)
theorem bad_commit {b : Sct.Av} {r : List (List UInt8)} (hb : Sct.Ok b) (hr : r = [] ∨ r = [[112, 117, 116], [97]]) : Sct.txt b ≠ [99, 111, 109, 109, 105, 116] :: [48] :: r := fun h => by
  obtain ⟨hk, ht⟩ := kind_tail hb (k := 1) (by decide) rfl h
  have e : Sct.tail b = Sct.dg b.u.toNat :: Sct.opw b.ops := by unfold Sct.tail; rw [hk]; rfl
  rw [e, List.cons.injEq] at ht
  have ho := hb.ops
  rw [show Sct.ho b.k = true by rw [hk]; decide] at ho
  obtain ⟨h1, _, _⟩ := Bm.chkL_zero ho
  obtain ⟨o, m, hom⟩ : ∃ o m, b.ops = o :: m := by
    cases hx : b.ops with
    | nil => rw [hx] at h1; simp at h1
    | cons o m => exact ⟨o, m, rfl⟩
  have h2 := ht.2
  rw [hom] at h2
  simp only [Sct.opw] at h2
  rcases hr with rfl | rfl
  · split at h2 <;> exact absurd h2 (List.cons_ne_nil _ _)
  · split at h2
    · have := congrArg List.length h2
      simp at this
    · rw [List.cons_append, List.cons.injEq] at h2
      exact absurd h2.1 (by decide)
theorem bad_bare {b : Sct.Av} (hb : Sct.Ok b) : Sct.txt b ≠ Sct.wds [99, 111, 109, 109, 105, 116, 32, 48] := by
  rw [show Sct.wds [99, 111, 109, 109, 105, 116, 32, 48] = [[99, 111, 109, 109, 105, 116], [48]] by decide]
  exact bad_commit hb (.inl rfl)
theorem bad_put {b : Sct.Av} (hb : Sct.Ok b) : Sct.txt b ≠ Sct.wds [99, 111, 109, 109, 105, 116, 32, 48, 32, 112, 117, 116, 32, 97] := by
  rw [show Sct.wds [99, 111, 109, 109, 105, 116, 32, 48, 32, 112, 117, 116, 32, 97] = [[99, 111, 109, 109, 105, 116], [48], [112, 117, 116], [97]] by decide]
  exact bad_commit hb (.inr rfl)

theorem rem_no {s : List UInt8} {w : List UInt8} {r : List (List UInt8)} (h : Sct.wds s = w :: r) (hw : w.head? ≠ some 35) : ¬ Sct.Rem s := by
  rintro (h1 | ⟨x, y, h1, h2⟩)
  · rw [h] at h1; exact absurd h1 (List.cons_ne_nil _ _)
  · rw [h, List.cons.injEq] at h1
    rw [h1.1] at hw
    exact hw h2

theorem lres_yes {s : List UInt8} {b : Sct.Av} (hs : s.length ≤ 65536) (h10 : (10 : UInt8) ∉ s) (hb : Sct.Ok b) (ht : Sct.txt b = Sct.wds s) : Sct.LRes s b true 0 := .inr (.inr (.inl ⟨hs, h10, not_rem ht, hb, ht, rfl, rfl⟩))

/-- "tick 0\ntock 0". -/
theorem pres_tock : Sct.PRes [116, 105, 99, 107, 32, 48, 10, 116, 111, 99, 107, 32, 48] [] 1 350 := by
  refine .inr ⟨by decide, ?_⟩
  rw [show Sct.lns [116, 105, 99, 107, 32, 48, 10, 116, 111, 99, 107, 32, 48] = [[116, 105, 99, 107, 32, 48], [116, 111, 99, 107, 32, 48]] by decide]
  refine ⟨axT, true, 0, lres_yes (by decide) (by decide) ok_axT tx_axT, .inr (.inr (.inl ⟨rfl, rfl, by decide, ?_⟩))⟩
  exact ⟨Sct.no, false, 350, .inr (.inr (.inr ⟨by decide, .inr ⟨rem_no (show Sct.wds [116, 111, 99, 107, 32, 48] = [[116, 111, 99, 107], [48]] by decide) (by decide), fun b hb => bad_tock hb⟩, rfl, rfl, rfl⟩)), .inl ⟨by decide, rfl, rfl, rfl⟩⟩

theorem lres_round : Sct.LRes [114, 111, 117, 110, 100] axR true 0 := lres_yes (by decide) (by decide) ok_axR tx_axR'
theorem lns_rounds : ∀ n : Nat, Sct.lns (Lib.repeatL [114, 111, 117, 110, 100, 10] n) = List.replicate n [114, 111, 117, 110, 100]
  | 0 => by rfl
  | n + 1 => by
    rw [List.replicate_succ, ← lns_rounds n]
    rfl
theorem pgo_rounds : ∀ (n i : Nat) (acc out : List Sct.Av) (p e : Int) (rest : List (List UInt8)), acc.length + n ≤ 200 → Sct.PGo rest (i + n) (acc ++ List.replicate n axR) out p e → Sct.PGo (List.replicate n [114, 111, 117, 110, 100] ++ rest) i acc out p e
  | 0, i, acc, out, p, e, rest, h, k => by simpa using k
  | n + 1, i, acc, out, p, e, rest, h, k => by
    rw [List.replicate_succ, List.cons_append]
    refine ⟨axR, true, 0, lres_round, .inr (.inr (.inl ⟨rfl, rfl, by omega, ?_⟩))⟩
    refine pgo_rounds n (i + 1) (acc ++ [axR]) out p e rest (by simp only [List.length_append, List.length_cons, List.length_nil]; omega) ?_
    rw [List.append_assoc, show i + 1 + n = i + (n + 1) by omega]
    rw [List.replicate_succ] at k
    exact k
/-- 200 rounds, and one more. -/
theorem pres_200 : Sct.PRes (Lib.repeatL [114, 111, 117, 110, 100, 10] 200) (List.replicate 200 axR) 0 0 := by
  refine .inr ⟨by rw [Lib.repeatL_length]; decide, ?_⟩
  rw [lns_rounds]
  have := pgo_rounds 200 0 [] (List.replicate 200 axR) 0 0 [] (by decide) ⟨by simp, rfl, rfl⟩
  rwa [List.append_nil] at this
theorem pres_201 : Sct.PRes (Lib.repeatL [114, 111, 117, 110, 100, 10] 201) [] 200 3 := by
  refine .inr ⟨by rw [Lib.repeatL_length]; decide, ?_⟩
  rw [lns_rounds, show List.replicate 201 [(114 : UInt8), 111, 117, 110, 100] = List.replicate 200 [114, 111, 117, 110, 100] ++ [[114, 111, 117, 110, 100]] from List.replicate_succ']
  refine pgo_rounds 200 0 [] [] 200 3 _ (by decide) ?_
  exact ⟨axR, true, 0, lres_round, .inr (.inl ⟨rfl, rfl, by simp, rfl, by omega, rfl⟩)⟩
theorem pres_long : Sct.PRes (Lib.repeatL [120] 65537) [] (-1) 3 := .inl ⟨by rw [Lib.repeatL_length]; decide, rfl, rfl, rfl⟩

/-- "read 1 a\20\n". -/
theorem prn_axA : Sct.prn [axA] = [114, 101, 97, 100, 32, 49, 32, 97, 92, 50, 48, 10] := by decide
theorem prr_axA {s : List UInt8} {p e : Int} (h : Sct.PrRes [axA] s p e) : s = [114, 101, 97, 100, 32, 49, 32, 97, 92, 50, 48, 10] ∧ e = 0 := by
  rcases h with ⟨h1, _⟩ | ⟨_, _, _, i, _, _, a, ha, hn⟩ | ⟨_, _, h1, _⟩ | ⟨_, _, _, h1, _, h2⟩
  · simp at h1
  · match i, ha with
    | 0, ha =>
      rw [← Option.some.inj (show some axA = some a from ha)] at hn
      exact absurd ok_axA hn
    | i + 1, ha => simp at ha
  · rw [prn_axA] at h1
    simp at h1
  · exact ⟨h1.trans prn_axA, h2⟩

end Go.Proofs.YtdlogcdpapknaaaGreatDoor

/- There and back, of texts and acts (layer 25). No program. -/
namespace Go.Proofs.YtdlogcdpapknaaaGreatDoor
set_option linter.unusedVariables false
set_option maxRecDepth 100000

theorem esc_ten (c : UInt8) : (10 : UInt8) ∉ Wm.esc c := by
  have := Wm.all_bytes (P := fun c => !(Wm.esc c).contains 10) (by decide +kernel) c
  simpa using this
theorem wd_ten (s : List UInt8) : (10 : UInt8) ∉ Wm.wd s := by
  by_cases hs : s = []
  · rw [hs]; decide
  · rw [Wm.wd_full hs]
    unfold Wm.flat
    rw [List.mem_flatMap]
    rintro ⟨c, _, h⟩
    exact esc_ten c h

/-- A word: not empty, no blank, no end of a line. -/
def Wd (w : List UInt8) : Prop := w ≠ [] ∧ 32 ∉ w ∧ 10 ∉ w
theorem wd_w (s : List UInt8) : Wd (Wm.wd s) := ⟨Wm.wd_ne s, Wm.wd_blank s, wd_ten s⟩
theorem opw_w : ∀ l : List Bm.Ov, ∀ w ∈ Sct.opw l, Wd w
  | [], w, h => by simp [Sct.opw] at h
  | o :: r, w, h => by
    simp only [Sct.opw] at h
    rcases List.mem_append.1 h with h | h
    · split at h
      · simp only [List.mem_cons, List.not_mem_nil, or_false] at h
        rcases h with rfl | rfl | rfl
        · exact ⟨by decide, by decide, by decide⟩
        · exact wd_w _
        · exact wd_w _
      · simp only [List.mem_cons, List.not_mem_nil, or_false] at h
        rcases h with rfl | rfl
        · exact ⟨by decide, by decide, by decide⟩
        · exact wd_w _
    · exact opw_w r w h
theorem txt_w {a : Sct.Av} (h : Sct.Ok a) : ∀ w ∈ Sct.txt a, Wd w := by
  have d1 := Sct.dg_word (n := a.u.toNat) (by have := h.u; omega)
  have d2 := Sct.dg_word (n := a.n.toNat) (by have := h.n; omega)
  have d3 := Sct.dg_word (n := a.t.toNat) (by have := h.t; omega)
  have one : ∀ (b : Bool) (x : List UInt8), Wd x → ∀ w ∈ (if b then [x] else []), Wd w := fun b x hx w hw => by
    cases b
    · simp at hw
    · simp only [if_true, List.mem_singleton] at hw
      rw [hw]; exact hx
  intro w hw
  unfold Sct.txt Sct.tail at hw
  simp only [List.mem_cons, List.mem_append] at hw
  rcases hw with rfl | hw | hw | hw | hw | hw
  · have := Sct.nm_word a.k
    exact ⟨this.1, this.2.1, this.2.2.1⟩
  · exact one _ _ d1 w hw
  · exact one _ _ (wd_w _) w hw
  · exact one _ _ d2 w hw
  · exact one _ _ d3 w hw
  · split at hw
    · exact opw_w _ w hw
    · simp at hw

theorem jn_ten : ∀ ws : List (List UInt8), (∀ w ∈ ws, Wd w) → (10 : UInt8) ∉ Sct.jn ws
  | [], _ => by simp [Sct.jn]
  | [w], h => (h w (by simp)).2.2
  | w :: x :: r, h => by
    have h1 := (h w (by simp)).2.2
    have h2 := jn_ten (x :: r) fun v hv => h v (by simp [hv])
    intro hm
    rcases List.mem_append.1 (show (10 : UInt8) ∈ w ++ 32 :: Sct.jn (x :: r) from hm) with hm | hm
    · exact h1 hm
    · rcases List.mem_cons.1 hm with hm | hm
      · exact absurd hm (by decide)
      · exact h2 hm

theorem lres_txt {a : Sct.Av} (h : Sct.Ok a) : Sct.LRes (Sct.jn (Sct.txt a)) a true 0 := by
  have hw := txt_w h
  exact lres_yes (by have := txt_jn h; omega) (jn_ten _ hw) h (Sct.wds_jn _ fun w hx => ⟨(hw w hx).1, (hw w hx).2.1⟩).symm

theorem lns_prn : ∀ l : List Sct.Av, (∀ a ∈ l, Sct.Ok a) → Sct.lns (Sct.prn l) = l.map fun a => Sct.jn (Sct.txt a)
  | [], _ => rfl
  | a :: r, h => by
    have ih := lns_prn r fun b hb => h b (by simp [hb])
    show Sct.lnsA [] (Sct.jn (Sct.txt a) ++ 10 :: Sct.prn r) = _
    rw [lnsA_run _ _ _ (jn_ten _ (txt_w (h a (by simp)))), List.nil_append, Sct.lnsA, if_pos rfl, List.map_cons, ← ih]
    rfl
theorem pgo_prn : ∀ (l : List Sct.Av) (i : Nat) (acc : List Sct.Av), (∀ a ∈ l, Sct.Ok a) → acc.length + l.length ≤ 200 → Sct.PGo (l.map fun a => Sct.jn (Sct.txt a)) i acc (acc ++ l) 0 0
  | [], i, acc, _, _ => ⟨by simp, rfl, rfl⟩
  | a :: r, i, acc, h, hn => by
    rw [List.length_cons] at hn
    have ih := pgo_prn r (i + 1) (acc ++ [a]) (fun b hb => h b (by simp [hb])) (by simp only [List.length_append, List.length_cons, List.length_nil]; omega)
    rw [List.append_assoc] at ih
    exact ⟨a, true, 0, lres_txt (h a (by simp)), .inr (.inr (.inl ⟨rfl, rfl, by omega, ih⟩))⟩

/-- What is printed is read as it was. -/
theorem pres_prn {l : List Sct.Av} (h : ∀ a ∈ l, Sct.Ok a) (hn : l.length ≤ 200) (hs : (Sct.prn l).length ≤ 65536) : Sct.PRes (Sct.prn l) l 0 0 := by
  refine .inr ⟨hs, ?_⟩
  rw [lns_prn l h]
  exact pgo_prn l 0 [] h (by simpa using hn)

theorem jn_wds : ∀ (l cur : List UInt8), (Sct.jn (Sct.wdsA cur l)).length ≤ cur.length + l.length
  | [], cur => by
    rw [Sct.wdsA]
    split
    · simp [Sct.jn]
    · simp [Sct.jn]
  | c :: r, cur => by
    by_cases hc : c = 32
    · rw [hc, Sct.wdsA_blank]
      have ih := jn_wds r []
      split
      · simp only [List.length_nil, List.length_cons] at ih ⊢; omega
      · cases e : Sct.wdsA [] r with
        | nil => simp only [Sct.jn, List.length_cons]; omega
        | cons x y =>
          rw [e] at ih
          show (cur ++ 32 :: Sct.jn (x :: y)).length ≤ _
          simp only [List.length_append, List.length_cons, List.length_nil] at ih ⊢
          omega
    · rw [Sct.wdsA_on hc]
      have ih := jn_wds r (cur ++ [c])
      simp only [List.length_append, List.length_cons, List.length_nil] at ih ⊢
      omega

/-- The size of lines with their ends. -/
def tot : List (List UInt8) → Nat
  | [] => 0
  | x :: r => x.length + 1 + tot r
theorem tot_lns : ∀ (l cur : List UInt8), tot (Sct.lnsA cur l) ≤ cur.length + l.length + 1
  | [], cur => by
    rw [Sct.lnsA]
    split
    · simp [tot]
    · simp [tot]
  | c :: r, cur => by
    rw [Sct.lnsA]
    split
    · have ih := tot_lns r []
      simp only [tot, List.length_nil, List.length_cons] at ih ⊢
      omega
    · have ih := tot_lns r (cur ++ [c])
      simp only [List.length_append, List.length_cons, List.length_nil] at ih ⊢
      omega

theorem prn_add : ∀ l m : List Sct.Av, (Sct.prn (l ++ m)).length = (Sct.prn l).length + (Sct.prn m).length
  | [], m => by simp [Sct.prn]
  | a :: r, m => by
    have := prn_add r m
    show (Sct.jn (Sct.txt a) ++ 10 :: Sct.prn (r ++ m)).length = (Sct.jn (Sct.txt a) ++ 10 :: Sct.prn r).length + _
    simp only [List.length_append, List.length_cons] at this ⊢
    omega

theorem pgo_ok : ∀ (ls : List (List UInt8)) (i : Nat) (acc out : List Sct.Av) (p : Int), Sct.PGo ls i acc out p 0 → (∀ a ∈ acc, Sct.Ok a) → acc.length ≤ 200 → (∀ a ∈ out, Sct.Ok a) ∧ out.length ≤ 200 ∧ (Sct.prn out).length ≤ (Sct.prn acc).length + tot ls ∧ p = 0
  | [], i, acc, out, p, h, ha, hn => by
    obtain ⟨rfl, rfl, _⟩ := h
    exact ⟨ha, hn, by simp [tot], rfl⟩
  | x :: r, i, acc, out, p, ⟨a, th, f, hl, h⟩, ha, hn => by
    rcases h with ⟨h1, _, _, h2⟩ | ⟨_, _, _, _, _, h2⟩ | ⟨rfl, rfl, h3, h⟩ | ⟨_, _, h⟩
    · exact absurd h2.symm h1
    · exact absurd h2 (by decide)
    · have hw : Sct.Ok a ∧ Sct.txt a = Sct.wds x := by
        rcases hl with ⟨_, _, h, _⟩ | ⟨_, _, _, _, h, _⟩ | ⟨_, _, _, h4, h5, _⟩ | ⟨_, _, _, h, _⟩
        · exact absurd h (by decide)
        · exact absurd h (by decide)
        · exact ⟨h4, h5⟩
        · exact absurd h (by decide)
      obtain ⟨k1, k2, k3, k4⟩ := pgo_ok r (i + 1) (acc ++ [a]) out p h (fun b hb => by
        rcases List.mem_append.1 hb with hb | hb
        · exact ha b hb
        · rw [List.mem_singleton.1 hb]; exact hw.1) (by simp only [List.length_append, List.length_cons, List.length_nil]; omega)
      refine ⟨k1, k2, ?_, k4⟩
      rw [prn_add] at k3
      have h7 := jn_wds x []
      have h8 : (Sct.prn [a]).length = (Sct.jn (Sct.txt a)).length + 1 := by simp [Sct.prn]
      rw [hw.2] at h8
      simp only [tot, List.length_nil] at h7 ⊢
      unfold Sct.wds at h8
      omega
    · obtain ⟨k1, k2, k3, k4⟩ := pgo_ok r (i + 1) acc out p h ha hn
      exact ⟨k1, k2, by simp only [tot]; omega, k4⟩

/-- What is read may be printed. -/
theorem pres_ok {s : List UInt8} {out : List Sct.Av} {p : Int} (h : Sct.PRes s out p 0) : (∀ a ∈ out, Sct.Ok a) ∧ out.length ≤ 200 ∧ (Sct.prn out).length ≤ s.length + 1 ∧ p = 0 := by
  rcases h with ⟨_, _, _, h⟩ | ⟨_, h⟩
  · exact absurd h (by decide)
  · obtain ⟨h1, h2, h3, h4⟩ := pgo_ok _ _ _ _ _ h (by simp) (by simp)
    have h5 := tot_lns s []
    simp only [Sct.prn, List.length_nil] at h3 h5
    unfold Sct.lns at h3
    exact ⟨h1, h2, by omega, h4⟩

theorem pgo_no : ∀ (ls : List (List UInt8)) (i : Nat) (acc out : List Sct.Av) (p e : Int), Sct.PGo ls i acc out p e → e ≠ 0 → out = []
  | [], i, acc, out, p, e, h, he => absurd h.2.2 he
  | x :: r, i, acc, out, p, e, ⟨a, th, f, hl, h⟩, he => by
    rcases h with ⟨_, h, _⟩ | ⟨_, _, _, h, _⟩ | ⟨_, _, _, h⟩ | ⟨_, _, h⟩
    · exact h
    · exact h
    · exact pgo_no r _ _ _ _ _ h he
    · exact pgo_no r _ _ _ _ _ h he
theorem pres_no {s : List UInt8} {out : List Sct.Av} {p e : Int} (h : Sct.PRes s out p e) (he : e ≠ 0) : out = [] := by
  rcases h with ⟨_, h, _⟩ | ⟨_, h⟩
  · exact h
  · exact pgo_no _ _ _ _ _ _ h he

theorem prr_yes {l : List Sct.Av} {s : List UInt8} {p : Int} (h : Sct.PrRes l s p 0) : s = Sct.prn l ∧ l.length ≤ 200 ∧ (∀ a ∈ l, Sct.Ok a) ∧ (Sct.prn l).length ≤ 65536 ∧ p = 0 := by
  rcases h with ⟨_, _, _, h⟩ | ⟨_, _, h, _⟩ | ⟨_, _, _, _, _, h⟩ | ⟨h1, h2, h3, h4, h5, _⟩
  · exact absurd h (by decide)
  · exact absurd h (by decide)
  · exact absurd h (by decide)
  · exact ⟨h4, h1, h2, h3, h5⟩
theorem prr_is {l : List Sct.Av} {s : List UInt8} {p e : Int} (h : Sct.PrRes l s p e) (hn : l.length ≤ 200) (ho : ∀ a ∈ l, Sct.Ok a) (hs : (Sct.prn l).length ≤ 65536) : s = Sct.prn l ∧ e = 0 := by
  rcases h with ⟨h, _⟩ | ⟨_, _, _, i, _, _, a, ha, hno⟩ | ⟨_, _, h, _⟩ | ⟨_, _, _, h4, _, h6⟩
  · omega
  · exact absurd (ho a (List.mem_of_getElem? ha)) hno
  · omega
  · exact ⟨h4, h6⟩

end Go.Proofs.YtdlogcdpapknaaaGreatDoor
