/- A script of appends to a wal: its disk is pulled and started. -/
import Derived.Test.YtimmohpnlieefaaVx
namespace Go.Proofs.Ytimmohpnlieefaa
open Go.RowKit
set_option linter.unusedVariables false

theorem start_is {st : Dm.Ds} {k t : Int} (h : st.on = false) (hk : 0 ≤ k) (ht : 0 ≤ t) : Dm.start st k t = (0, { st with sure := Dm.kept st k.toNat t.toNat, wait := [], has := false, on := true }) := by
  unfold Dm.start
  rw [if_neg (by rw [h]; simp; omega)]

theorem big_trm {t u : Nat} {st : Dm.Ds} (n : Nat) (h : Big t u st) : Big t (u + 2) (Wl.trm st n).2 := by
  unfold Wl.trm
  have h1 := big_cut h 0 n
  have h2 := big_sync h1
  split
  · exact h.mono (Nat.le_refl _) (by omega)
  split
  · exact h1.mono (Nat.le_refl _) (by omega)
  split
  · exact h2
  · exact h2

section
variable {w W : World} {p q : Nat} {F : Nat → Prop} {s : Wl.Ws} {va vs : Value} {ra rs : List Cw}

theorem KI.pulled (h : KI w W p q F s va ra vs rs) (ho : s.d.on = true) :
    Calls Try.prog 31 #[.pointer (some ⟨q, 0, none⟩)] W fun E w' => E = .returned (.int .i64 0) ∧ ∃ F', KI w w' p q F' ⟨Dm.dark s.d, s.l, s.bk⟩ va ra vs rs :=
  h.disk fun F1 h1 => by
    have := pull_any q F1 W s.d h1
    have e : Dm.pull s.d = (0, Dm.dark s.d) := by unfold Dm.pull; rw [if_neg (by simp [ho])]
    rw [e] at this
    exact this

theorem KI.fused (h : KI w W p q F s va ra vs rs) (n : Int) (hn : 0 ≤ n) (ho : s.d.on = true) :
    Calls Try.prog 27 #[.pointer (some ⟨q, 0, none⟩), .int .i64 n] W fun E w' => E = .returned (.int .i64 0) ∧ ∃ F', KI w w' p q F' ⟨{ s.d with has := true, left := n.toNat }, s.l, s.bk⟩ va ra vs rs :=
  h.disk fun F1 h1 => by
    have := fuse_any q F1 W s.d n h1
    have e : Dm.fuse s.d n = (0, { s.d with has := true, left := n.toNat }) := by unfold Dm.fuse; rw [if_neg (by simp [ho]), if_neg (by omega)]
    rw [e] at this
    exact this

/-- What a start leaves. -/
structure Std (st' : Dm.Ds) (bs : List Int) : Prop where
  on : st'.on = true
  has : st'.has = false
  hld : Wl.hld st' = bs
  big : Big 50000 2000 st'

theorem KI.started (h : KI w W p q F s va ra vs rs) (k t : Int) (hk : 0 ≤ k) (ht : 0 ≤ t) (ht2 : t ≤ 9223372036854775807) (ho : s.d.on = false) (hb : Big 40000 1000 s.d) :
    Calls Try.prog 32 #[.pointer (some ⟨q, 0, none⟩), .int .i64 k, .int .i64 t] W fun E w' => E = .returned (.int .i64 0) ∧ ∃ F' st', KI w w' p q F' ⟨st', s.l, s.bk⟩ va ra vs rs ∧ Std st' (Dm.kept s.d k.toNat t.toNat 0) := by
  have e := start_is ho hk ht
  have hc := h.disk (f := 32) (args := #[.pointer (some ⟨q, 0, none⟩), .int .i64 k, .int .i64 t]) (e := 0) (st' := (Dm.start s.d k t).2) fun F1 h1 => by
    have := start_any q F1 W s.d k t h1 ht2 (fun f => Nat.le_trans (hb.1.1 f) (by decide)) (Nat.le_trans hb.1.2.1 (by decide))
    rw [e] at this ⊢
    exact this
  refine hc.mono ?_
  rintro E w' ⟨rfl, F', K⟩
  refine ⟨rfl, F', _, K, ?_, ?_, ?_, (big_start hb k t).mono (by decide) (by decide)⟩
  · rw [e]
  · rw [e]
  · rw [e]; rfl

/-- What Open of a started disk leaves. -/
theorem std_open {st' : Dm.Ds} {bs : List Int} {m : List Cm.Cv} (h : Std st' bs) (hm : Wl.Lg 0 0 (Wl.hld st') m) : (opD st' m).on = true ∧ (opD st' m).has = false ∧ Wl.hld (opD st' m) = Wl.lgb m ∧ Big 100000000 800000 (opD st' m) := by
  have e : opD st' m = (Wl.trm st' (Wl.lgb m).length).2 := by unfold opD; rw [if_neg (by rw [h.on]; decide)]
  obtain ⟨_, h2, h3, h4⟩ := Wl.trm_is h.on h.has hm
  rw [e]
  exact ⟨h3, h4, h2, (big_trm _ h.big).mono (by decide) (by decide)⟩

end

/-- What was told stays, where its blocks are none of the wal's. -/
theorem told_out {B : Nat} {F : Nat → Prop} {w w' : World} {v : Value} {r : List Cw} (h : OwnR 32 B w v r) (hc : CopyR B w r) (ho : Out F w w') (hF : ∀ g, F g → g < B) : OwnR 32 B w' v r ∧ CopyR B w' r :=
  ⟨row_out h ho hF, fun c hd => row_out (hc c hd) ho hF⟩

theorem isc_of {B : Nat} {w : World} {v : Value} {r : List Cw} {m : List Cm.Cv} (h : OwnR 32 B w v r) (hc : CopyR B w r) (he : cvs r = m) (hg : Cm.Good 0 0 m) : IsC w v r ∧ FitC r := by
  obtain ⟨f, g⟩ := fit_good hg he
  exact ⟨⟨h.row, fun c hd => ⟨(hc c hd).is, (g c hd).1, (g c hd).2.1⟩⟩, f⟩

end Go.Proofs.Ytimmohpnlieefaa
