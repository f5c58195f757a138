/- A script of appends and cuts to a wal whose disk stays on. -/
import Derived.Test.YtimmohpnlieefaaVy
namespace Go.Proofs.Ytimmohpnlieefaa
open Go.RowKit
set_option linter.unusedVariables false

/-- A wal over a disk that stays on: the log is all. -/
structure Cin (s : Wl.Ws) (all : List Cm.Cv) : Prop where
  on : s.d.on = true
  has : s.d.has = false
  bk : s.bk = false
  l : s.l = all
  good : Cm.Good 0 0 all
  hld : Wl.hld s.d = Wl.lgb all

theorem Cin.ask {s : Wl.Ws} {all : List Cm.Cv} (h : Cin s all) : Wl.ask s = false := by unfold Wl.ask; rw [h.bk, h.on]; rfl

theorem wrt_on : ∀ (n : Nat) (st : Dm.Ds) (bs : List Int), bs.length ≤ n → st.on = true → st.has = false → (Dm.wrt 0 n st bs).1 = 0 ∧ (Dm.wrt 0 n st bs).2.on = true ∧ (Dm.wrt 0 n st bs).2.has = false ∧ Wl.hld (Dm.wrt 0 n st bs).2 = Wl.hld st ++ bs
  | 0, st, bs, hb, ho, hh => by
    have : bs = [] := List.eq_nil_of_length_eq_zero (by omega)
    subst this
    exact ⟨rfl, ho, hh, by simp [Dm.wrt]⟩
  | n + 1, st, bs, hb, ho, hh => by
    unfold Dm.wrt
    by_cases h0 : bs = []
    · subst h0
      rw [if_pos rfl]
      exact ⟨rfl, ho, hh, by simp⟩
    · rw [if_neg h0, if_neg (by simp [Dm.off, hh])]
      have hp : 1 ≤ bs.length := by
        rcases bs with _ | ⟨x, bs⟩
        · exact absurd rfl h0
        · simp
      have ih := wrt_on n (Dm.push (Dm.burn st) ⟨0, false, 0, bs.take 64⟩) (bs.drop 64) (by rw [List.length_drop]; omega) ho hh
      rw [Wl.hld_push, List.append_assoc, List.take_append_drop] at ih
      exact ih

theorem write_on {st : Dm.Ds} (bs : List Int) (ho : st.on = true) (hh : st.has = false) : (Dm.write st 0 bs).1 = 0 ∧ (Dm.write st 0 bs).2.on = true ∧ (Dm.write st 0 bs).2.has = false ∧ Wl.hld (Dm.write st 0 bs).2 = Wl.hld st ++ bs := by
  have e : Dm.write st 0 bs = Dm.wrt 0 bs.length st bs := by
    unfold Dm.write
    rw [if_neg (by simp [ho]), if_neg (by decide)]
    rfl
  rw [e]
  exact wrt_on _ st bs (Nat.le_refl _) ho hh

theorem cin_app {s : Wl.Ws} {all : List Cm.Cv} (h : Cin s all) (c : Cm.Cv) : ((Wl.wapp s c).1 = 0 ∧ Cin (Wl.wapp s c).2 (all ++ [c])) ∨ ((Wl.wapp s c).1 ≠ 0 ∧ (Wl.wapp s c).2 = s) := by
  have hl := h.l
  unfold Wl.wapp
  rw [h.ask]
  simp only [Bool.false_eq_true, if_false]
  by_cases h1 : Cm.chk c.e c.n c.l = 0
  · rw [if_neg (by simp [h1])]
    by_cases h2 : c.n - 1 ≠ s.l.length ∨ c.e < Cm.lastE 0 s.l
    · rw [if_pos h2]
      exact .inr ⟨by simp, rfl⟩
    · rw [if_neg h2]
      obtain ⟨g1, g2, g3, g4⟩ := write_on (Wl.fr c) h.on h.has
      rw [if_neg (by simp [g1])]
      refine .inl ⟨rfl, g2, g3, rfl, by rw [← hl], (Wl.good_snoc h.good).2 ⟨h1, by rw [hl] at h2; exact h2⟩, ?_⟩
      show Wl.hld (Dm.write s.d 0 (Wl.fr c)).2 = _
      rw [g4, Wl.lgb_app, Wl.lgb_one, h.hld]
  · rw [if_pos h1]
    exact .inr ⟨h1, rfl⟩

theorem cin_cut {s : Wl.Ws} {all : List Cm.Cv} (h : Cin s all) (n : Nat) (hn : n ≤ all.length) : (Wl.wcut s n).1 = 0 ∧ Cin (Wl.wcut s n).2 (all.take n) := by
  have hl := h.l
  have hle : (Wl.lgb (all.take n)).length ≤ (Wl.hld s.d).length := by rw [h.hld]; exact lgb_take_le _ _
  have hc : Dm.cutD s.d 0 (Wl.lgb (s.l.take (n : Int).toNat)).length = (0, Dm.push (Dm.burn s.d) ⟨0, true, (Wl.lgb (all.take n)).length, []⟩) := by
    rw [hl]
    unfold Dm.cutD
    rw [if_neg (by simp [h.on]), if_neg (by decide), if_neg ?_, if_neg (by simp [Dm.off, h.has])]
    · rfl
    · unfold Wl.hld at hle
      simp
      omega
  unfold Wl.wcut
  rw [h.ask, if_neg (by decide), if_neg (by rw [hl]; omega), hc]
  simp only [ne_eq, not_true, if_false]
  refine ⟨trivial, h.on, h.has, rfl, by rw [hl]; rfl, Cm.good_take h.good n, ?_⟩
  have e : Wl.hld (Dm.push (Dm.burn s.d) ⟨0, true, (Wl.lgb (all.take n)).length, []⟩) = (Wl.hld s.d).take (Wl.lgb (all.take n)).length := by
    unfold Wl.hld Dm.push Dm.burn
    simp only
    rw [Dm.hold_snoc]
    simp [Dm.wth]
  show Wl.hld (Dm.push (Dm.burn s.d) ⟨0, true, (Wl.lgb (all.take n)).length, []⟩) = _
  rw [e, h.hld, ← Wl.lgb_take]

theorem cin_syn {s : Wl.Ws} {all : List Cm.Cv} (h : Cin s all) : (Wl.wsyn s).1 = 0 ∧ Cin (Wl.wsyn s).2 all ∧ (Wl.wsyn s).2.d.sure 0 = Wl.lgb all := by
  have e : Dm.sync s.d = (0, Dm.flush (Dm.burn s.d)) := by
    unfold Dm.sync
    rw [if_neg (by simp [h.on]), if_neg (by simp [Dm.off, h.has])]
  have e2 : (Dm.flush (Dm.burn s.d)).sure 0 = Wl.hld s.d := by
    show Dm.dof s.d.sure s.d.wait 0 = _
    rw [← Dm.hold_dof]
    rfl
  unfold Wl.wsyn
  rw [h.ask, e]
  simp only [Bool.false_eq_true, if_false]
  exact ⟨trivial, ⟨h.on, h.has, rfl, h.l, h.good, e2.trans h.hld⟩, e2.trans h.hld⟩

theorem big_wcut {t u : Nat} {s : Wl.Ws} {n : Int} (h : Big t u s.d) : Big t (u + 1) (Wl.wcut s n).2.d := by
  unfold Wl.wcut
  have hm : Big t (u + 1) s.d := h.mono (Nat.le_refl _) (by omega)
  have hb := big_cut h 0 (Wl.lgb (s.l.take n.toNat)).length
  split
  · exact hm
  split
  · exact hm
  split
  · exact hb
  · exact hb

/-- A wal and what was appended; the ops are the caller's (w: his world), or copies. -/
structure KJ (w wr : World) (p q : Nat) (F : Nat → Prop) (s : Wl.Ws) (va : Value) (ra : List Cw) : Prop where
  ww : WW p q F wr s
  fb : ∀ g, F g → w.heap.size ≤ g
  al : OwnR 32 w.heap.size wr va ra
  an : ∀ g, va.ownBlock = some g → ¬ F g
  ai : ∀ c ∈ ra, (IsO w c.v c.l ∨ (OwnO 87 w.heap.size wr c.v c.l ∧ ∀ g, c.v.ownBlock = some g → ¬ F g)) ∧ (In64 c.e ∧ In64 c.n) ∧ FitO c.l ∧ c.l.length * 40 ≤ 140737488351232
  bel : Below w.heap.size w wr

section
variable {w wr w2 w3 : World} {p q : Nat} {F : Nat → Prop} {s s' : Wl.Ws} {va : Value} {ra : List Cw}

theorem KJ.below (h : KJ w wr p q F s va ra) (hb : Below wr.heap.size wr w2) : KJ w w2 p q F s va ra :=
  ⟨h.ww.below hb, h.fb, h.al.below hb, h.an, fun c hc => ⟨(h.ai c hc).1.imp id fun k => ⟨k.1.below hb, k.2⟩, (h.ai c hc).2⟩, h.bel.trans (hb.mono h.bel.size)⟩

theorem KJ.step (h : KJ w wr p q F s va ra) (k : WStep p q F wr w2 s') : ∃ F', KJ w w2 p q F' s' va ra := by
  obtain ⟨F', k1, k2, k3⟩ := k
  have hs := h.bel.size
  have far : ∀ g, g < wr.heap.size → ¬ F g → ¬ F' g := fun g hg hf hf' => by
    rcases k3 g hf' with e | e
    · exact hf e
    · omega
  refine ⟨F', k1, fun g hg => ?_, row_agree h.al fun g hg => k2.block g (World.ownsRow.lt h.al g hg).2 (h.an g hg), fun g hg => far g (World.ownsRow.lt h.al g hg).2 (h.an g hg), fun c hc => ⟨(h.ai c hc).1.imp id fun k => ⟨row_agree k.1 fun g hg => k2.block g (World.ownsRow.lt k.1 g hg).2 (k.2 g hg), fun g hg => far g (World.ownsRow.lt k.1 g hg).2 (k.2 g hg)⟩, (h.ai c hc).2⟩, h.bel.trans (k2.below h.fb h.bel.size)⟩
  rcases k3 g hg with e | e
  · exact h.fb g e
  · omega

theorem KJ.push (h : KJ w wr p q F s va ra) {c : Cw} {v' : Value} (hb : Below wr.heap.size wr w2) (hr : OwnR 32 w.heap.size w3 v' (ra ++ [c])) (hg : w2.grownBy w3 va.ownBlock) (hat : v'.ownBlock = va.ownBlock ∨ v'.ownBlock = some w2.heap.size) (hc : IsO w c.v c.l ∧ (In64 c.e ∧ In64 c.n) ∧ FitO c.l ∧ c.l.length * 40 ≤ 140737488351232) :
    KJ w w3 p q F s v' (ra ++ [c]) := by
  have k := h.below hb
  have hsz := hb.size
  have hlt := h.ww.lt
  have oo : Out (fun g => va.ownBlock = some g) w2 w3 := Out.of_grown hg fun g e => e
  refine ⟨k.ww.out oo fun g hg e => h.an g e hg, h.fb, hr, fun g e hf => ?_, fun d hd => ?_, k.bel.grown hg k.bel.size fun g e => (World.ownsRow.lt h.al g e).1⟩
  · rcases hat with a | a
    · exact h.an g (a ▸ e) hf
    · rw [a] at e
      simp at e
      have := hlt g hf
      omega
  · rcases List.mem_append.1 hd with hd | hd
    · exact ⟨(k.ai d hd).1.imp id fun m => ⟨m.1.keepT (KeepT.of_row k.al hg) (by decide), m.2⟩, (k.ai d hd).2⟩
    · rw [List.mem_singleton.1 hd]
      exact ⟨.inl hc.1, hc.2⟩

theorem KJ.copied (h : KJ w wr p q F s va ra) {v' : Value} {r' : List Cw} {m : List Cm.Cv} (hb : Below wr.heap.size wr w2) (hr : OwnR 32 wr.heap.size w2 v' r') (hc : CopyR wr.heap.size w2 r') (he : cvs r' = m) (hg : Cm.Good 0 0 m) : KJ w w2 p q F s v' r' := by
  have k := h.below hb
  have hlt := h.ww.lt
  have hbs := h.bel.size
  obtain ⟨f, g⟩ := fit_good hg he
  refine ⟨k.ww, k.fb, hr.rebase hbs, fun g e hf => ?_, fun c hd => ⟨.inr ⟨(hc c hd).rebase hbs, fun g e hf => ?_⟩, ⟨(g c hd).1, (g c hd).2.1⟩, f c hd⟩, k.bel⟩
  · have := (World.ownsRow.lt hr g e).1
    have := hlt g hf
    omega
  · have := (World.ownsRow.lt (hc c hd) g e).1
    have := hlt g hf
    omega

theorem KJ.alc (h : KJ w wr p q F s va ra) : IsC wr va ra ∧ FitC ra := ⟨⟨h.al.row, fun c hc => ⟨(h.ai c hc).1.elim (fun k => k.below h.bel) fun k => k.1.is, (h.ai c hc).2.1⟩⟩, fun c hc => (h.ai c hc).2.2⟩

theorem KJ.app (h : KJ w wr p q F s va ra) (hl : ra.length ≤ 1000) {c : Cw} (hc : IsO w c.v c.l ∧ (In64 c.e ∧ In64 c.n) ∧ FitO c.l ∧ c.l.length * 40 ≤ 140737488351232) :
    ∃ V, wr.alloc (.cells #[.int .i64 c.e, .int .i64 c.n, c.v] 32) = V ∧ Hid (∀ ty, ∃ v' w', (Builtin.append_ #[34, 34] ty #[va, .slice (some ⟨wr.heap.size, 0, none⟩) 1 1]).run Try.prog V = .ok v' w' ∧ (KJ w w' p q F s v' (ra ++ [c]) ∧ ∃ a k, v' = .slice a (ra.length + 1) k)) := by
  obtain ⟨V, hV, szV, belV, own⟩ := rows_step ccell 3 ccell_len 32 wr #[.int .i64 c.e, .int .i64 c.n, c.v] 1 [c] rfl rfl (by simp [maxLen])
  refine ⟨V, hV, hide fun ty => ?_⟩
  have hbs := h.bel.size
  obtain ⟨v', w', hr, hown, hg, hat⟩ := run_append_rows_at (P := Try.prog) (w := V) 34 ty ccell 3 40 ccell_len (by decide) (by decide) (.agg #[.int .i64 0, .int .i64 0, .slice none 0 0]) rfl 32 w.heap.size Try.underlying34 Try.info32 va ra (ownR_g.1 (h.al.below belV)) _ [c] own.row (by
    rw [← ccells_g]
    exact ccells_cell [c] fun d hd => by rw [List.mem_singleton.1 hd]; exact hc.1.one) (by simp; omega) (by omega)
  obtain ⟨a, k, hv', _⟩ := hown.row.shape
  exact ⟨v', w', hr, h.push belV (ownR_g.2 hown) hg hat hc, a, k, by rw [hv', List.length_append]; rfl⟩

theorem KJ.append (h : KJ w wr p q F s va ra) (c : Cw) (hb : WBig s) (hc : IsO w c.v c.l ∧ (In64 c.e ∧ In64 c.n) ∧ FitO c.l ∧ c.l.length * 40 ≤ 140737488351232) :
    Calls Try.prog 11 #[.pointer (some ⟨p, 0, none⟩), .agg #[.int .i64 c.e, .int .i64 c.n, c.v]] wr fun E w' => E = .returned (.int .i64 (Wl.wapp s c.c).1) ∧ Out F wr w' ∧ ∃ F', KJ w w' p q F' (Wl.wapp s c.c).2 va ra := by
  have := wappend_any p q F wr s c h.ww hb (hc.1.below h.bel) hc.2.2.1 hc.2.1 hc.2.2.2 (fun hl b hb hf => by
    obtain ⟨g, off, cap, hv, _, _, hlt, _⟩ := hc.1.full hl
    rw [hv] at hb
    simp [Value.ownBlock] at hb
    have := h.fb b hf
    omega)
  unfold cmv at this
  refine this.mono ?_
  rintro E w' ⟨rfl, k⟩
  exact ⟨rfl, by obtain ⟨_, _, o, _⟩ := k; exact o, h.step k⟩

theorem KJ.cut (h : KJ w wr p q F s va ra) (n : Int) (hb : WBig s) (hin : Wl.ask s = false → (Wl.lgb s.l).length ≤ (Wl.hld s.d).length) :
    Calls Try.prog 14 #[.pointer (some ⟨p, 0, none⟩), .int .i64 n] wr fun E w' => E = .returned (.int .i64 (Wl.wcut s n).1) ∧ ∃ F', KJ w w' p q F' (Wl.wcut s n).2 va ra := by
  refine (wcut_any p q F wr s n h.ww hb hin).mono ?_
  rintro E w' ⟨rfl, k⟩
  exact ⟨rfl, h.step k⟩

theorem KJ.synced (h : KJ w wr p q F s va ra) (hb : WBig s) :
    Calls Try.prog 21 #[.pointer (some ⟨p, 0, none⟩)] wr fun E w' => E = .returned (.int .i64 (Wl.wsyn s).1) ∧ ∃ F', KJ w w' p q F' (Wl.wsyn s).2 va ra := by
  refine (wsync_any p q F wr s h.ww hb).mono ?_
  rintro E w' ⟨rfl, k⟩
  exact ⟨rfl, h.step k⟩

theorem KJ.pk (h : KJ w wr p q F s va ra) : ∃ F1, Pk q F1 wr s.d := by
  obtain ⟨F1, G1, h1, h2, hF⟩ := h.ww
  exact ⟨F1, h1⟩

end

/-- Open of a disk that holds just the log. -/
theorem KJ.open2 {w wr : World} {p q : Nat} {F : Nat → Prop} {s : Wl.Ws} {va : Value} {ra : List Cw} {all : List Cm.Cv} (h : KJ w wr p q F s va ra) (hc : Cin s all) (hb : Big 100000000 800000 s.d) :
    Calls Try.prog 9 #[.pointer (some ⟨q, 0, none⟩)] wr fun E w' => ∃ p' F' F'', E = .returned (.tuple #[.pointer (some ⟨p', 0, none⟩), .int .i64 0]) ∧ KJ w w' p q F' s va ra ∧ WW p' q F'' w' ⟨s.d, all, false⟩ ∧ Out F wr w' := by
  obtain ⟨F1, G1, h1, h2, hF⟩ := id h.ww
  refine (wopen_any q F1 wr s.d h1 hb).mono ?_
  rintro E w' ⟨m, LG, PS, hcc⟩
  have hm : m = all := by
    have := LG.out
    rw [hc.hld] at this
    exact Wl.lg_one this (Wl.lg_self hc.good)
  subst hm
  have e : Wl.trm s.d (Wl.lgb m).length = (0, s.d) := by unfold Wl.trm; rw [if_pos (by rw [hc.hld])]
  have e0 : opE s.d m = 0 := by unfold opE; rw [if_neg (by rw [hc.on]; decide), e]
  have e1 : opD s.d m = s.d := by unfold opD; rw [if_neg (by rw [hc.on]; decide), e]
  rw [e1] at PS
  rcases hcc with ⟨hn, _⟩ | ⟨_, p', G', rfl, hw, hgn⟩
  · exact absurd e0 hn
  have ST : WStep p q F wr w' s := by
    obtain ⟨F2, k1, k2, k3, k4⟩ := WW.disk h1 h2 PS
    rw [hF]
    refine ⟨_, ⟨F2, G1, k1, k2, rfl⟩, k3.mono fun g hg => .inl (.inl hg), ?_⟩
    rintro g (e | e)
    · rcases k4 g e with e | e
      · exact .inl (.inl e)
      · exact .inr e
    · exact .inl (.inr e)
  obtain ⟨F', K⟩ := h.step ST
  obtain ⟨F2, k1, k2, _⟩ := PS
  obtain ⟨_, _, o, _⟩ := ST
  exact ⟨p', F', _, rfl, K, ⟨F2, G', k1, hw, rfl⟩, o⟩

end Go.Proofs.Ytimmohpnlieefaa
