/- The program's disk: Sync, Cut, Read, Durable, Start. -/
import Derived.Test.YtimmohpnlieefaaPf
namespace Go.Proofs.Ytimmohpnlieefaa
open Go.RowKit Go.Shelf
set_option linter.unusedVariables false

theorem flush_eq (st : Dm.Ds) (n : Nat) (hn : n = st.wait.length) : ({ st with sure := Dm.dof st.sure (st.wait.take n), wait := st.wait.drop n } : Dm.Ds) = Dm.flush st := by
  subst hn
  simp [Dm.flush]

set_option maxRecDepth 20000 in
set_option maxHeartbeats 8000000 in
theorem dosync_any (p : Nat) (F : Nat → Prop) (w : World) (st : Dm.Ds) (h : Pk p F w st) (hsz : ∀ f, (st.sure f).length + Dm.bulk st.wait ≤ 140737488355000) (hlen : st.wait.length ≤ 1000000) (hl : st.left ≤ 9223372036854775807) (hc : st.count < 9223372036854775807) :
    Calls Try.prog 80 #[.pointer (some ⟨p, 0, none⟩), .agg #[.int .i64 2, .int .i64 0, .slice none 0 0, .int .i64 0]] w fun E w' => E = .returned (.int .i64 (if Dm.off st then 6 else 0)) ∧ PStep p F w w' (if Dm.off st then Dm.dark st else Dm.flush (Dm.burn st)) := by
  obtain ⟨s, wv, rs, h, rfl⟩ := h
  obtain ⟨w1, hw1, sz1, bel1, hB⟩ := blk_step w #[.int .i64 2, .int .i64 0, .slice none 0 0, .int .i64 0] 111
  have h1 := h.below bel1
  have c1 := h1.c1
  have c2 := h1.c2
  have c8 := h1.c8
  have f1 := h1.froz 1
  have f2 := h1.froz 2
  have f8 := h1.froz 8
  have hpw : p < w.heap.size := blk_lt h.blk
  have hlr := h.con.len
  obtain ⟨ao, cap, hv, _, _⟩ := h.con.row.row.shape
  by_cases hoff : Dm.off st = true
  · rw [hoff, if_pos rfl, if_pos rfl]
    have hz : pfuse st = 0 := by
      simp [Dm.off] at hoff
      simp [pfuse, hoff.1, hoff.2]
    obtain ⟨R1, R2⟩ := h1.set (st' := Dm.dark st) 1 (.bool false) rfl rfl rfl
    have HR : Hid (PStep p (FB p s wv rs) w (w1.setCell ⟨p, 1, none⟩ (.bool false)) (Dm.dark st)) := hide (PStep.pre bel1 (PStep.of_set R1 R2))
    rw [hz] at c2
    clear h h1 R1 R2 hB hlr hz hoff hv
    go_enter Try.func80, Try.ntmps80
    go_wp2
    go_ret
    exact ⟨rfl, HR.out⟩
  · have hoff' : Dm.off st = false := by simpa using hoff
    rw [hoff', if_neg (by simp), if_neg (by simp)]
    have tail : ∀ W, PkV p W (Dm.burn st) s wv rs → Out (FB p s wv rs) w1 W → Hid (Calls Try.prog 68 #[.pointer (some ⟨p, 0, none⟩), .int .i64 rs.length] W fun E w' => (∃ v, E = .returned v) ∧ PStep p (FB p s wv rs) w w' (Dm.flush (Dm.burn st))) := fun W hP hO => hide (by
      refine (settle_any p _ W (Dm.burn st) rs.length ⟨s, wv, rs, hP, rfl⟩ (by have : (Dm.burn st).wait = st.wait := rfl; rw [this]; omega) hsz hlen).mono ?_
      rintro E w' ⟨hE, hS⟩
      rw [flush_eq _ _ (by have : (Dm.burn st).wait = st.wait := rfl; rw [this]; omega)] at hS
      exact ⟨hE, (hS.trans hO fun g hg => .inl hg).pre bel1⟩)
    have hcw : IntKind.i64.wrap ((st.count : Int) + 1) = (st.count : Int) + 1 := wrap64s _ (by omega) (by omega)
    cases hh : st.has
    · have hz : pfuse st = -1 := by simp [pfuse, hh]
      obtain ⟨W, hW, hPW, hOW, szW, keW⟩ := count_tail h1 hh
      have hBW := (keW w.heap.size (by omega)).trans hB
      have x0 : W.cell? ⟨w.heap.size, 0, none⟩ = some (.int .i64 2) := blk_cell hBW 0 rfl
      have w7 : W.cell? ⟨p, 7, none⟩ = some wv := hPW.c7
      have T := tail W hPW hOW
      rw [hv] at w7
      rw [hz] at c2
      clear h h1 hB hlr hz hoff hoff' hv hPW hOW keW hBW hh tail
      go_enter Try.func80, Try.ntmps80
      go_wp2_with fail
      refine T.out.mono ?_
      rintro E w5 ⟨⟨v5, rfl⟩, J⟩
      have J := hide J
      go_wp2
      go_ret
      exact ⟨rfl, J.out⟩
    · have hl1 : 1 ≤ st.left := by
        simp [Dm.off, hh] at hoff
        omega
      have hz : pfuse st = st.left := by simp [pfuse, hh]
      obtain ⟨U, W, hU, hW, u8, fu8, hPW, hOW, szW, keW⟩ := burn_tail h1 hh hl1
      have hBW := (keW w.heap.size (by omega)).trans hB
      have x0 : W.cell? ⟨w.heap.size, 0, none⟩ = some (.int .i64 2) := blk_cell hBW 0 rfl
      have w7 : W.cell? ⟨p, 7, none⟩ = some wv := hPW.c7
      have T := tail W hPW hOW
      rw [hv] at w7
      rw [hz] at c2
      have hlw : IntKind.i64.wrap ((st.left : Int) - 1) = (st.left : Int) - 1 := wrap64s _ (by omega) (by omega)
      have hl0 : ((st.left : Int) == 0) = false := beq_eq_false_iff_ne.2 (by omega)
      have hlm : ((st.left : Int) == -1) = false := beq_eq_false_iff_ne.2 (by omega)
      clear h h1 hB hlr hz hoff hoff' hv hPW hOW keW hBW hh tail
      go_enter Try.func80, Try.ntmps80
      go_wp2_with fail
      refine T.out.mono ?_
      rintro E w5 ⟨⟨v5, rfl⟩, J⟩
      have J := hide J
      go_wp2
      go_ret
      exact ⟨rfl, J.out⟩

theorem pair_if {α β : Type} (b : Bool) (x y : α) (u v : β) : (if b = true then (x, u) else (y, v)) = ((if b = true then x else y), if b = true then u else v) := by cases b <;> rfl

set_option maxRecDepth 20000 in
set_option maxHeartbeats 2000000 in
theorem sync_any (p : Nat) (F : Nat → Prop) (w : World) (st : Dm.Ds) (h : Pk p F w st) (hsz : ∀ f, (st.sure f).length + Dm.bulk st.wait ≤ 140737488355000) (hlen : st.wait.length ≤ 1000000) (hl : st.left ≤ 9223372036854775807) (hc : st.count < 9223372036854775807) :
    Calls Try.prog 63 #[.pointer (some ⟨p, 0, none⟩)] w fun E w' => E = .returned (.int .i64 (Dm.sync st).1) ∧ PStep p F w w' (Dm.sync st).2 := by
  have HA := hide (refuses_any p F w st h)
  have HD := hide (dosync_any p F w st h hsz hlen hl hc)
  have HK := hide h
  clear h
  unfold Dm.sync
  cases hon : st.on
  · rw [if_pos rfl]
    have hk := ask_off hon
    clear hon
    go_enter Try.func63, Try.ntmps63
    go_wp2_with fail
    refine HA.out.mono ?_
    rintro E w1 ⟨rfl, rfl⟩
    rw [hk]
    go_wp2
    go_ret
    exact ⟨rfl, PStep.same HK.out (Below.refl _ _)⟩
  · rw [if_neg (by simp), pair_if]
    have hk := ask_on hon
    generalize (if Dm.off st = true then (6 : Int) else 0) = e at HD ⊢
    generalize (if Dm.off st = true then Dm.dark st else Dm.flush (Dm.burn st)) = st' at HD ⊢
    clear hon
    go_enter Try.func63, Try.ntmps63
    go_wp2_with fail
    refine HA.out.mono ?_
    rintro E w1 ⟨rfl, rfl⟩
    rw [hk]
    go_wp2_with fail
    refine HD.out.mono ?_
    rintro E w2 ⟨rfl, J⟩
    have J := hide J
    go_wp2
    go_ret
    exact ⟨rfl, J.out⟩

/-- What Read tells. -/
def rdE (st : Dm.Ds) (file : Int) : Int := if st.on = false then 6 else if Dm.inF file = false then 2 else 0
def rdB (st : Dm.Ds) (file : Int) : List Int := if st.on = false then [] else if Dm.inF file = false then [] else Dm.hold file.toNat (st.sure file.toNat) st.wait
def duB (st : Dm.Ds) (file : Int) : List Int := if Dm.inF file = false then [] else st.sure file.toNat

theorem inF_nat {file : Int} (h : Dm.inF file = true) : ∃ f : Nat, f < 4 ∧ file = f := by
  simp [Dm.inF] at h
  exact ⟨file.toNat, by omega, by omega⟩

set_option maxRecDepth 20000 in
set_option maxHeartbeats 2000000 in
theorem dread_any (p : Nat) (F : Nat → Prop) (w : World) (st : Dm.Ds) (file : Int) (h : Pk p F w st) (hsz : ∀ f, (st.sure f).length + Dm.bulk st.wait ≤ 140737488355000) (hlen : st.wait.length ≤ 1000000) :
    Calls Try.prog 36 #[.pointer (some ⟨p, 0, none⟩), .int .i64 file] w fun E w' => ∃ v, E = .returned (.tuple #[v, .int .i64 (rdE st file)]) ∧ Own .u8 5 w.heap.size w' v (rdB st file) ∧ Below w.heap.size w w' := by
  have HA := hide (refuses_any p F w st h)
  have HF := hide (isfile_any file w)
  cases hon : st.on
  · have e1 : rdE st file = 6 := by simp [rdE, hon]
    have e2 : rdB st file = [] := by simp [rdB, hon]
    rw [e1, e2]
    have hk := ask_off hon
    clear hon h e1 e2
    go_enter Try.func36, Try.ntmps36
    go_wp2_with fail
    refine HA.out.mono ?_
    rintro E w1 ⟨rfl, rfl⟩
    rw [hk]
    go_wp2
    refine bodyPost_ret (results_tmp2 rfl _ _ _) rfl ?_
    exact ⟨_, rfl, Own.nil _ _ _ _, Below.refl _ _⟩
  · have hk := ask_on hon
    cases hin : Dm.inF file
    · have e1 : rdE st file = 2 := by simp [rdE, hon, hin]
      have e2 : rdB st file = [] := by simp [rdB, hon, hin]
      rw [e1, e2]
      rw [hin] at HF
      clear hon h e1 e2 hin
      go_enter Try.func36, Try.ntmps36
      go_wp2_with fail
      refine HA.out.mono ?_
      rintro E w1 ⟨rfl, rfl⟩
      rw [hk]
      go_wp2_with fail
      refine HF.out.mono ?_
      rintro E w1 ⟨rfl, rfl⟩
      go_wp2
      refine bodyPost_ret (results_tmp2 rfl _ _ _) rfl ?_
      exact ⟨_, rfl, Own.nil _ _ _ _, Below.refl _ _⟩
    · obtain ⟨f, hf, rfl⟩ := inF_nat hin
      have e1 : rdE st f = 0 := by simp [rdE, hon, hin]
      have e2 : rdB st f = Dm.hold f (st.sure f) st.wait := by simp [rdB, hon, hin]
      rw [e1, e2]
      rw [hin] at HF
      have HH := hide (held_any p F w st f h hf (hsz f) hlen)
      clear hon h e1 e2 hin
      go_enter Try.func36, Try.ntmps36
      go_wp2_with fail
      refine HA.out.mono ?_
      rintro E w1 ⟨rfl, rfl⟩
      rw [hk]
      go_wp2_with fail
      refine HF.out.mono ?_
      rintro E w1 ⟨rfl, rfl⟩
      go_wp2_with fail
      refine HH.out.mono ?_
      rintro E w2 ⟨v2, rfl, own2, bel2⟩
      go_wp2
      refine bodyPost_ret (results_tmp2 rfl _ _ _) rfl ?_
      exact ⟨_, rfl, own2, bel2⟩

set_option maxRecDepth 20000 in
set_option maxHeartbeats 2000000 in
theorem durable_any (p : Nat) (F : Nat → Prop) (w : World) (st : Dm.Ds) (file : Int) (h : Pk p F w st) (hsz : ∀ f, (st.sure f).length + Dm.bulk st.wait ≤ 140737488355000) :
    Calls Try.prog 38 #[.pointer (some ⟨p, 0, none⟩), .int .i64 file] w fun E w' => ∃ v, E = .returned v ∧ Own .u8 5 w.heap.size w' v (duB st file) ∧ Below w.heap.size w w' := by
  have HA := hide (made_any p F w st h)
  have HF := hide (isfile_any file w)
  cases hin : Dm.inF file
  · have e2 : duB st file = [] := by simp [duB, hin]
    rw [e2]
    rw [hin] at HF
    clear h e2 hin
    go_enter Try.func38, Try.ntmps38
    go_wp2_with fail
    refine HA.out.mono ?_
    rintro E w1 ⟨rfl, rfl⟩
    go_wp2_with fail
    refine HF.out.mono ?_
    rintro E w1 ⟨rfl, rfl⟩
    go_wp2
    go_ret
    exact ⟨_, rfl, Own.nil _ _ _ _, Below.refl _ _⟩
  · obtain ⟨f, hf, rfl⟩ := inF_nat hin
    have e2 : duB st f = st.sure f := by simp [duB, hin]
    rw [e2]
    rw [hin] at HF
    obtain ⟨s, wv, rs, h, rfl⟩ := h
    have cf := h.cf f hf
    have hl := hsz f
    have HC := hide (bclone_any (s f) (st.sure f) w (h.con.file f hf).is (by omega))
    have hf0 : (0 : Int) ≤ (f : Int) := by omega
    have hf4 : (f : Int) < 4 := by omega
    clear h e2 hin
    go_enter Try.func38, Try.ntmps38
    go_wp2_with fail
    refine HA.out.mono ?_
    rintro E w1 ⟨rfl, rfl⟩
    go_wp2_with fail
    refine HF.out.mono ?_
    rintro E w1 ⟨rfl, rfl⟩
    go_wp2_with fail
    refine HC.out.mono ?_
    rintro E w2 ⟨v2, rfl, own2, bel2⟩
    go_wp2
    go_ret
    exact ⟨_, rfl, own2, bel2⟩

theorem PStep.of_do {p : Nat} {F : Nat → Prop} {w w' : World} {st' : Dm.Ds} {v : Value} (h : PDo p F w st' v w') (hv : v.ownBlock = none) : PStep p F w w' st' := by
  obtain ⟨F', h1, h2, h3⟩ := h
  refine ⟨F', h1, h2, fun g hg => ?_⟩
  rcases h3 g hg with h | h | h
  · exact .inl h
  · exact .inr h
  · rw [hv] at h; cases h

end Go.Proofs.Ytimmohpnlieefaa
