/- A script of appends to a wal: the calls, seen by what stands in memory. -/
import Derived.Test.YtimmohpnlieefaaVw
import Derived.Test.YtimmohpnlieefaaPj
namespace Go.Proofs.Ytimmohpnlieefaa
open Go.RowKit
set_option linter.unusedVariables false

theorem big_wapp {t u : Nat} {s : Wl.Ws} {c : Cm.Cv} (h : Big t u s.d) : Big (t + 433) (u + 7) (Wl.wapp s c).2.d := by
  have hm : Big (t + 433) (u + 7) s.d := h.mono (by omega) (by omega)
  unfold Wl.wapp
  split
  · exact hm
  split
  · exact hm
  · rename_i h1
    have hf := Wl.fr_small (c := c) (by simpa using h1)
    have hb := (big_write h 0 (Wl.fr c)).mono (t' := t + 433) (u' := u + 7) (by omega) (by have := cnt_small hf; omega)
    split
    · exact hm
    split
    · exact hb
    · exact hb

theorem big_wsyn {t u : Nat} {s : Wl.Ws} (h : Big t u s.d) : Big t (u + 1) (Wl.wsyn s).2.d := by
  unfold Wl.wsyn
  split
  · exact h.mono (Nat.le_refl _) (by omega)
  · exact big_sync h

theorem frl_all {m : List Cm.Cv} (h : m.length ≤ 61) : frl m 1 61 = m := by
  unfold frl
  by_cases h0 : m.length = 0
  · have : m = [] := List.eq_nil_of_length_eq_zero h0
    subst this
    rfl
  · rw [if_neg (by omega)]
    show (m.drop 0).take 61 = m
    rw [List.drop_zero, List.take_of_length_le h]

section
variable {w W : World} {p q : Nat} {F : Nat → Prop} {s : Wl.Ws} {va vs : Value} {ra rs : List Cw}

/-- A step of the disk. -/
theorem KI.disk (h : KI w W p q F s va ra vs rs) {f : FuncId} {args : Array Value} {st' : Dm.Ds} {e : Int} (hc : ∀ F1, Pk q F1 W s.d → Calls Try.prog f args W fun E w' => E = .returned (.int .i64 e) ∧ PStep q F1 W w' st') :
    Calls Try.prog f args W fun E w' => E = .returned (.int .i64 e) ∧ ∃ F', KI w w' p q F' ⟨st', s.l, s.bk⟩ va ra vs rs := by
  obtain ⟨F1, G1, h1, h2, hF⟩ := id h.ww
  refine (hc F1 h1).mono ?_
  rintro E w' ⟨rfl, PS⟩
  refine ⟨rfl, h.step ?_⟩
  obtain ⟨F2, k1, k2, k3, k4⟩ := WW.disk h1 h2 PS
  rw [hF]
  refine ⟨_, ⟨F2, G1, k1, k2, rfl⟩, k3.mono fun g hg => .inl (.inl hg), ?_⟩
  rintro g (e | e)
  · rcases k4 g e with e | e
    · exact .inl (.inl e)
    · exact .inr e
  · exact .inl (.inr e)

theorem KI.pk (h : KI w W p q F s va ra vs rs) : ∃ F1, Pk q F1 W s.d := by
  obtain ⟨F1, G1, h1, h2, hF⟩ := h.ww
  exact ⟨F1, h1⟩

/-- Open of its disk: another wal. -/
theorem KI.opened (h : KI w W p q F s va ra vs rs) (hb : Big 100000000 800000 s.d) (ho : s.d.on = true) (hh : s.d.has = false) :
    Calls Try.prog 9 #[.pointer (some ⟨q, 0, none⟩)] W fun E w' => ∃ p' F' m, E = .returned (.tuple #[.pointer (some ⟨p', 0, none⟩), .int .i64 0]) ∧ KI w w' p' q F' ⟨opD s.d m, m, false⟩ va ra vs rs ∧ Out F W w' ∧ Hid (Wl.Lg 0 0 (Wl.hld s.d) m) := by
  obtain ⟨F1, G1, h1, h2, hF⟩ := id h.ww
  refine (wopen_any q F1 W s.d h1 hb).mono ?_
  rintro E w' ⟨m, LG, PS, hc⟩
  have h0 : opE s.d m = 0 := by
    unfold opE
    rw [if_neg (by rw [ho]; decide)]
    exact (Wl.trm_is ho hh LG.out).1
  rcases hc with ⟨hn, _⟩ | ⟨_, p', G', rfl, hw, hgn⟩
  · exact absurd h0 hn
  obtain ⟨F2, k1, k2, k3⟩ := PS
  have o1 : Out F W w' := k2.mono fun g hg => .inl (by rw [hF]; exact .inl hg)
  have hs := h.bel.size
  have far : ∀ g, g < W.heap.size → ¬ F g → ¬ (F2 g ∨ G' g) := fun g hg hf hf' => by
    rcases hf' with e | e
    · rcases k3 g e with e | e
      · exact hf (by rw [hF]; exact .inl e)
      · omega
    · have := hgn g e
      omega
  refine ⟨p', _, m, rfl, ⟨⟨F2, G', k1, hw, rfl⟩, fun g hg' => ?_, row_agree h.al fun g hg => o1.block g (World.ownsRow.lt h.al g hg).2 (h.an g hg), fun g hg => far g (World.ownsRow.lt h.al g hg).2 (h.an g hg), h.ai, row_agree h.su fun g hg => o1.block g (World.ownsRow.lt h.su g hg).2 (h.sn g hg), fun g hg => far g (World.ownsRow.lt h.su g hg).2 (h.sn g hg),
    fun c hc => row_agree (h.so c hc) fun g hg => o1.block g (World.ownsRow.lt (h.so c hc) g hg).2 (h.sp c hc g hg), fun c hc g hg => far g (World.ownsRow.lt (h.so c hc) g hg).2 (h.sp c hc g hg), h.sa, h.bel.trans (o1.below h.fb h.bel.size)⟩, o1, LG⟩
  rcases hg' with e | e
  · rcases k3 g e with e | e
    · exact h.fb g (by rw [hF]; exact .inl e)
    · omega
  · have := hgn g e
    omega

end

end Go.Proofs.Ytimmohpnlieefaa
