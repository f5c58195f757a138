/- Two logs with a common first part, by mathematics. -/
import Derived.Test.YtklpbcdkgjoheaaSp
namespace Go.Proofs.Ytklpbcdkgjoheaa
open Go.RowKit
set_option linter.unusedVariables false

theorem lg_last : ∀ (bs : List Bool) (ep : Int) (n : Nat), ep ≤ Cm.lastE ep (lg ep n bs) ∧ Cm.lastE ep (lg ep n bs) ≤ ep + 2 * bs.length
  | [], ep, _ => by simp [lg, Cm.lastE]
  | b :: r, ep, n => by
    rw [lg_cons]
    have hb : ep ≤ (if b then ep + 2 else ep) ∧ (if b then ep + 2 else ep) ≤ ep + 2 := by split <;> omega
    generalize (if b then ep + 2 else ep) = x at hb
    have := lg_last r x (n + 1)
    simp only [Cm.lastE, List.length_cons]
    push_cast
    omega

theorem lg_par : ∀ (bs : List Bool) (ep : Int) (n : Nat) (c : Cm.Cv), c ∈ lg ep n bs → (c.e - ep) % 2 = 0
  | [], _, _, _, h => by simp [lg] at h
  | b :: r, ep, n, c, h => by
    rw [lg_cons] at h
    have hb : ((if b then ep + 2 else ep) - ep) % 2 = 0 := by split <;> omega
    generalize (if b then ep + 2 else ep) = x at hb h
    rcases List.mem_cons.1 h with rfl | h
    · exact hb
    · have := lg_par r x (n + 1) c h
      omega

theorem last_one : ∀ (C : List Cm.Cv), 0 < C.length → Cm.lastE 0 C = Cm.lastE 1 C
  | [], h => by simp at h
  | c :: r, _ => rfl

theorem last_le (C : List Cm.Cv) : Cm.lastE 0 C ≤ Cm.lastE 1 C := by
  cases C with
  | nil => simp [Cm.lastE]
  | cons c r => exact Int.le_refl _

/-- A log that goes on. -/
theorem good_on {C : List Cm.Cv} (hC : Cm.Good 0 0 C) {d : Int} {bs : List Bool} (h0 : 1 ≤ Cm.lastE 1 C) (h1 : Cm.lastE 1 C ≤ 81) (hd : 0 ≤ d) (hd' : d ≤ 200) (hl : C.length ≤ 40) (hb : bs.length ≤ 40) : Cm.Good 0 0 (C ++ lg (Cm.lastE 1 C + d) C.length bs) := by
  rw [Cm.good_app]
  refine ⟨hC, ?_⟩
  rw [Sm.good_n C 0 0 hC, Int.zero_add]
  have := last_le C
  exact lg_good bs _ _ _ (by omega) (by omega) (by omega) (by omega)

theorem epochs_part {C : List Cm.Cv} {x y : Int} {bs ds : List Bool} (hxy : (x - y) % 2 = 1) : ∀ (i : Nat) (c d : Cm.Cv), C.length ≤ i → (C ++ lg x C.length bs)[i]? = some c → (C ++ lg y C.length ds)[i]? = some d → c.e ≠ d.e := by
  intro i c d hi hc hd he
  rw [List.getElem?_append_right hi] at hc hd
  have h1 := lg_par bs x _ c (List.mem_of_getElem? hc)
  have h2 := lg_par ds y _ d (List.mem_of_getElem? hd)
  omega

/-- What the three logs of StartsFork are. -/
structure Three (rc ra rb : List Cw) (E : Int) (m na : Nat) : Prop where
  gc : Cm.Good 0 0 (cvs rc)
  ga : Cm.Good 0 0 (cvs ra)
  gb : Cm.Good 0 0 (cvs rb)
  lc : rc.length = m
  la : ra.length = na
  ca : cvs (ra.take m) = cvs rc
  ab : frE (Sm.told 0 (cvs ra)) ra.length (Sm.told 0 (cvs rb)) rb.length = 0 ∧ ∀ n, Fr (Sm.told 0 (cvs ra)) ra.length (Sm.told 0 (cvs rb)) rb.length n → n = m
  ba : frE (Sm.told 0 (cvs rb)) rb.length (Sm.told 0 (cvs ra)) ra.length = 0 ∧ ∀ n, Fr (Sm.told 0 (cvs rb)) rb.length (Sm.told 0 (cvs ra)) ra.length n → n = m
  ac : frE (Sm.told 0 (cvs ra)) ra.length (Sm.told 0 (cvs rc)) rc.length = 0 ∧ ∀ n, Fr (Sm.told 0 (cvs ra)) ra.length (Sm.told 0 (cvs rc)) rc.length n → n = m

theorem frE_ok {r s : List Cw} (h : Cm.Good 0 0 (cvs r)) (k : Cm.Good 0 0 (cvs s)) : frE (Sm.told 0 (cvs r)) r.length (Sm.told 0 (cvs s)) s.length = 0 := by
  unfold frE
  rw [Sm.chk_ok (ok_all h), Sm.chk_ok (ok_all k)]
  rfl

theorem fr_of {r s : List Cw} (h : Cm.Good 0 0 (cvs r)) (k : Cm.Good 0 0 (cvs s)) {m : Nat} (hf : Sm.Fk (Sm.told 0 (cvs r)) r.length (Sm.told 0 (cvs s)) s.length m) :
    frE (Sm.told 0 (cvs r)) r.length (Sm.told 0 (cvs s)) s.length = 0 ∧ ∀ n, Fr (Sm.told 0 (cvs r)) r.length (Sm.told 0 (cvs s)) s.length n → n = m :=
  ⟨frE_ok h k, fun n hn => fr_one hn (.inl ⟨frE_ok h k, hf⟩)⟩

theorem three_of {rc ra rb : List Cw} {cs os ts : List Bool} {E : Int} (hc : cvs rc = lg 1 0 cs) (hE : E = Cm.lastE 1 (cvs rc)) (ha : cvs ra = cvs rc ++ lg (E + 100) rc.length os) (hb : cvs rb = cvs rc ++ lg (E + 101) rc.length ts) (h1 : cs.length ≤ 40) (h2 : os.length ≤ 40) (h3 : ts.length ≤ 40) :
    Three rc ra rb E cs.length (cs.length + os.length) ∧ rb.length = cs.length + ts.length := by
  have lc : rc.length = cs.length := by rw [← cvs_lenk, hc, lg_len]
  have la : ra.length = cs.length + os.length := by rw [← cvs_lenk, ha, List.length_append, lg_len, cvs_lenk, lc]
  have lb : rb.length = cs.length + ts.length := by rw [← cvs_lenk, hb, List.length_append, lg_len, cvs_lenk, lc]
  have gc : Cm.Good 0 0 (cvs rc) := by rw [hc]; exact lg_good cs 1 0 0 (by decide) (by decide) (by omega) (by omega)
  have hl := lg_last cs 1 0
  rw [← hc] at hl
  have hlc : (cvs rc).length = rc.length := cvs_lenk rc
  have ga : Cm.Good 0 0 (cvs ra) := by
    rw [ha, hE, ← hlc]
    exact good_on gc (by omega) (by omega) (by decide) (by decide) (by omega) h2
  have gb : Cm.Good 0 0 (cvs rb) := by
    rw [hb, hE, ← hlc]
    exact good_on gc (by omega) (by omega) (by decide) (by decide) (by omega) h3
  have fab : Sm.Fk (Sm.told 0 (cvs ra)) ra.length (Sm.told 0 (cvs rb)) rb.length cs.length := by
    have := Sm.fork_told (l := cvs ra) (m := cvs rb) ga gb (k := cs.length) (by rw [cvs_lenk]; omega) (by rw [cvs_lenk]; omega) (by
      rw [ha, hb, List.take_append_of_le_length (by omega), List.take_append_of_le_length (by omega)]) (by
      intro i c d hi h4 h5
      rw [ha, ← hlc] at h4
      rw [hb, ← hlc] at h5
      exact epochs_part (by omega) i c d (by omega) h4 h5)
    rw [cvs_lenk, cvs_lenk] at this
    exact this
  have fac : Sm.Fk (Sm.told 0 (cvs ra)) ra.length (Sm.told 0 (cvs rc)) rc.length cs.length := by
    have := Sm.fork_told (l := cvs ra) (m := cvs rc) ga gc (k := cs.length) (by rw [cvs_lenk]; omega) (by rw [cvs_lenk]; omega) (by
      rw [ha, List.take_append_of_le_length (by omega)]) (by
      intro i c d hi h4 h5
      have := (List.getElem?_eq_some_iff.1 h5).1
      omega)
    rw [cvs_lenk, cvs_lenk] at this
    exact this
  refine ⟨⟨gc, ga, gb, lc, la, ?_, fr_of ga gb fab, fr_of gb ga (Sm.fk_swap fab), fr_of ga gc fac⟩, lb⟩
  rw [cvs_take, ha, List.take_append_of_le_length (by omega), List.take_of_length_le (by omega)]

theorem last_at {r : List Cw} {k : Nat} {c : Cw} (h : r[k]? = some c) (hk : k + 1 = r.length) : Cm.lastE 1 (cvs r) = c.e := by
  have h1 : cvs r = cvs (r.take k) ++ [c.c] := by
    rw [← cvs_next h, List.take_of_length_le (by omega)]
  rw [h1]
  exact (Cm.last_snoc _ c.c 1 0).1

end Go.Proofs.Ytklpbcdkgjoheaa
