/- A script of appends to a wal: what stands in memory. -/
import Derived.Test.YtimmohpnlieefaaVv
namespace Go.Proofs.Ytimmohpnlieefaa
open Go.RowKit
set_option linter.unusedVariables false

/-- A wal, what was appended, what was synced; nothing of it is the caller's (w: his world). -/
structure KI (w wr : World) (p q : Nat) (F : Nat → Prop) (s : Wl.Ws) (va : Value) (ra : List Cw) (vs : Value) (rs : List Cw) : Prop where
  ww : WW p q F wr s
  fb : ∀ g, F g → w.heap.size ≤ g
  al : OwnR 32 w.heap.size wr va ra
  an : ∀ g, va.ownBlock = some g → ¬ F g
  ai : ∀ c ∈ ra, IsO w c.v c.l ∧ (In64 c.e ∧ In64 c.n) ∧ FitO c.l ∧ c.l.length * 40 ≤ 140737488351232
  su : OwnR 32 w.heap.size wr vs rs
  sn : ∀ g, vs.ownBlock = some g → ¬ F g
  so : CopyR w.heap.size wr rs
  sp : ∀ c ∈ rs, ∀ g, c.v.ownBlock = some g → ¬ F g
  sa : ∀ g, va.ownBlock = some g → vs.ownBlock ≠ some g
  bel : Below w.heap.size w wr

section
variable {w wr w2 w3 : World} {p q : Nat} {F : Nat → Prop} {s s' : Wl.Ws} {va vs : Value} {ra rs : List Cw}

theorem KI.below (h : KI w wr p q F s va ra vs rs) (hb : Below wr.heap.size wr w2) : KI w w2 p q F s va ra vs rs :=
  ⟨h.ww.below hb, h.fb, h.al.below hb, h.an, h.ai, h.su.below hb, h.sn, h.so.below hb, h.sp, h.sa, h.bel.trans (hb.mono h.bel.size)⟩

theorem KI.step (h : KI w wr p q F s va ra vs rs) (k : WStep p q F wr w2 s') : ∃ F', KI w w2 p q F' s' va ra vs rs := by
  obtain ⟨F', k1, k2, k3⟩ := k
  have hs := h.bel.size
  have far : ∀ g, g < wr.heap.size → ¬ F g → ¬ F' g := fun g hg hf hf' => by
    rcases k3 g hf' with e | e
    · exact hf e
    · omega
  refine ⟨F', k1, fun g hg => ?_, row_agree h.al fun g hg => k2.block g (World.ownsRow.lt h.al g hg).2 (h.an g hg), fun g hg => far g (World.ownsRow.lt h.al g hg).2 (h.an g hg), h.ai, row_agree h.su fun g hg => k2.block g (World.ownsRow.lt h.su g hg).2 (h.sn g hg), fun g hg => far g (World.ownsRow.lt h.su g hg).2 (h.sn g hg),
    fun c hc => row_agree (h.so c hc) fun g hg => k2.block g (World.ownsRow.lt (h.so c hc) g hg).2 (h.sp c hc g hg), fun c hc g hg => far g (World.ownsRow.lt (h.so c hc) g hg).2 (h.sp c hc g hg), h.sa, h.bel.trans (k2.below h.fb h.bel.size)⟩
  rcases k3 g hg with e | e
  · exact h.fb g e
  · omega

/-- One more was appended. -/
theorem KI.push (h : KI w wr p q F s va ra vs rs) {c : Cw} {v' : Value} (hb : Below wr.heap.size wr w2) (hr : OwnR 32 w.heap.size w3 v' (ra ++ [c])) (hg : w2.grownBy w3 va.ownBlock) (hat : v'.ownBlock = va.ownBlock ∨ v'.ownBlock = some w2.heap.size) (hc : IsO w c.v c.l ∧ (In64 c.e ∧ In64 c.n) ∧ FitO c.l ∧ c.l.length * 40 ≤ 140737488351232) :
    KI w w3 p q F s v' (ra ++ [c]) vs rs := by
  have k := h.below hb
  have hsz := hb.size
  have hlt := h.ww.lt
  have oo : Out (fun g => va.ownBlock = some g) w2 w3 := Out.of_grown hg fun g e => e
  have own' : ∀ g, v'.ownBlock = some g → va.ownBlock = some g ∨ w2.heap.size ≤ g := fun g e => by
    rcases hat with a | a
    · exact .inl (a ▸ e)
    · rw [a] at e
      simp at e
      exact .inr (by omega)
  refine ⟨k.ww.out oo fun g hg e => h.an g e hg, h.fb, hr, fun g e hf => ?_, fun d hd => ?_, row_agree k.su fun g hg => oo.block g (World.ownsRow.lt k.su g hg).2 fun e => h.sa g e hg, h.sn, fun d hd => ?_, h.sp, fun g e e2 => ?_, ?_⟩
  · rcases own' g e with e | e
    · exact h.an g e hf
    · have := hlt g hf
      omega
  · rcases List.mem_append.1 hd with hd | hd
    · exact h.ai d hd
    · rw [List.mem_singleton.1 hd]
      exact hc
  · exact (k.so d hd).keepT (KeepT.of_row k.al hg) (by decide)
  · rcases own' g e with e | e
    · exact h.sa g e e2
    · have := (World.ownsRow.lt h.su g e2).2
      omega
  · exact k.bel.grown hg k.bel.size fun g e => (World.ownsRow.lt h.al g e).1

/-- What was appended is sure. -/
theorem KI.sure (h : KI w wr p q F s va ra vs rs) {v' : Value} {r' : List Cw} (hb : Below wr.heap.size wr w2) (hr : OwnR 32 wr.heap.size w2 v' r') (hc : CopyR wr.heap.size w2 r') : KI w w2 p q F s va ra v' r' := by
  have k := h.below hb
  have hlt := h.ww.lt
  have hbs := h.bel.size
  refine ⟨k.ww, k.fb, k.al, k.an, k.ai, hr.rebase hbs, fun g e hf => ?_, fun c hd => (hc c hd).rebase hbs, fun c hd g e hf => ?_, fun g e e2 => ?_, k.bel⟩
  · have := (World.ownsRow.lt hr g e).1
    have := hlt g hf
    omega
  · have := (World.ownsRow.lt (hc c hd) g e).1
    have := hlt g hf
    omega
  · have := (World.ownsRow.lt hr g e2).1
    have := (World.ownsRow.lt h.al g e).2
    omega

theorem KI.alc (h : KI w wr p q F s va ra vs rs) : IsC wr va ra ∧ FitC ra := ⟨⟨h.al.row, fun c hc => ⟨(h.ai c hc).1.below h.bel, (h.ai c hc).2.1⟩⟩, fun c hc => (h.ai c hc).2.2⟩

theorem KI.suc (h : KI w wr p q F s va ra vs rs) (hg : Cm.Good 0 0 (cvs rs)) : IsC wr vs rs ∧ FitC rs := by
  obtain ⟨f, g⟩ := fit_good hg rfl
  exact ⟨⟨h.su.row, fun c hc => ⟨(h.so c hc).is, (g c hc).1, (g c hc).2.1⟩⟩, f⟩

end

/-- 'all = append(all, c)'. -/
theorem KI.app {w wr : World} {p q : Nat} {F : Nat → Prop} {s : Wl.Ws} {va vs : Value} {ra rs : List Cw} (h : KI w wr p q F s va ra vs rs) (hl : ra.length ≤ 1000) {c : Cw} (hc : IsO w c.v c.l ∧ (In64 c.e ∧ In64 c.n) ∧ FitO c.l ∧ c.l.length * 40 ≤ 140737488351232) :
    ∃ V, wr.alloc (.cells #[.int .i64 c.e, .int .i64 c.n, c.v] 32) = V ∧ Hid (∀ ty, ∃ v' w', (Builtin.append_ #[34, 34] ty #[va, .slice (some ⟨wr.heap.size, 0, none⟩) 1 1]).run Try.prog V = .ok v' w' ∧ (KI w w' p q F s v' (ra ++ [c]) vs rs ∧ ∃ a k, v' = .slice a (ra.length + 1) k)) := by
  obtain ⟨V, hV, szV, belV, own⟩ := rows_step ccell 3 ccell_len 32 wr #[.int .i64 c.e, .int .i64 c.n, c.v] 1 [c] rfl rfl (by simp [maxLen])
  refine ⟨V, hV, hide fun ty => ?_⟩
  have hbs := h.bel.size
  obtain ⟨v', w', hr, hown, hg, hat⟩ := run_append_rows_at (P := Try.prog) (w := V) 34 ty ccell 3 40 ccell_len (by decide) (by decide) (.agg #[.int .i64 0, .int .i64 0, .slice none 0 0]) rfl 32 w.heap.size Try.underlying34 Try.info32 va ra (ownR_g.1 (h.al.below belV)) _ [c] own.row (by
    rw [← ccells_g]
    exact ccells_cell [c] fun d hd => by rw [List.mem_singleton.1 hd]; exact hc.1.one) (by simp; omega) (by omega)
  obtain ⟨a, k, hv', _⟩ := hown.row.shape
  exact ⟨v', w', hr, h.push belV (ownR_g.2 hown) hg hat hc, a, k, by rw [hv', List.length_append]; rfl⟩

end Go.Proofs.Ytimmohpnlieefaa
