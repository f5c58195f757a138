/- Texts of one layer, one behind the other. -/
import Derived.Test.YtmkpaedemjiboaaGreatB4
import Derived.Test.YtmkpaedemjiboaaGreatB9
import Derived.Test.YtmkpaedemjiboaaGreatUj
import Derived.Test.YtmkpaedemjiboaaGreatA3
import Derived.Test.YtmkpaedemjiboaaGreatB1
/- A script of calls to a wal and its disk, by mathematics. -/
namespace Go.Proofs.YtmkpaedemjiboaaGreat
open Go.RowKit
set_option linter.unusedVariables false

theorem wrt_ok : ∀ (n : Nat) (st : Dm.Ds) (bs : List Int), bs.length ≤ n → (Dm.wrt 0 n st bs).1 = 0 → Wl.hld (Dm.wrt 0 n st bs).2 = Wl.hld st ++ bs
  | 0, st, bs, hb, h0 => by
    have : bs = [] := List.eq_nil_of_length_eq_zero (by omega)
    subst this
    simp [Dm.wrt]
  | n + 1, st, bs, hb, h0 => by
    unfold Dm.wrt at h0 ⊢
    by_cases he : bs = []
    · subst he
      simp
    · rw [if_neg he] at h0 ⊢
      by_cases ho : Dm.off st = true
      · rw [if_pos ho] at h0
        simp at h0
      · rw [if_neg ho] at h0 ⊢
        have hp : 1 ≤ bs.length := by
          rcases bs with _ | ⟨x, bs⟩
          · exact absurd rfl he
          · simp
        have ih := wrt_ok n (Dm.push (Dm.burn st) ⟨0, false, 0, bs.take 64⟩) (bs.drop 64) (by rw [List.length_drop]; omega) h0
        rw [ih, Wl.hld_push, List.append_assoc, List.take_append_drop]

theorem write_ok {st : Dm.Ds} {bs : List Int} (h : (Dm.write st 0 bs).1 = 0) : Wl.hld (Dm.write st 0 bs).2 = Wl.hld st ++ bs := by
  unfold Dm.write at h ⊢
  by_cases ho : st.on = false
  · rw [if_pos ho] at h
    simp at h
  · rw [if_neg ho, if_neg (by decide)] at h ⊢
    exact wrt_ok _ _ _ (Nat.le_refl _) h

theorem hld_cut (st : Dm.Ds) (n : Nat) : Wl.hld (Dm.push (Dm.burn st) ⟨0, true, n, []⟩) = (Wl.hld st).take n := by
  unfold Wl.hld Dm.push Dm.burn
  simp only
  rw [Dm.hold_snoc]
  simp [Dm.wth]

/-- A cut of what is there: done, or the disk is off. -/
theorem cut_is {st : Dm.Ds} {n : Nat} (hn : n ≤ (Wl.hld st).length) : ((Dm.cutD st 0 n).1 = 0 ∧ Wl.hld (Dm.cutD st 0 n).2 = (Wl.hld st).take n) ∨ ((Dm.cutD st 0 n).1 ≠ 0 ∧ (Dm.cutD st 0 n).2.on = false) := by
  unfold Dm.cutD
  by_cases ho : st.on = false
  · rw [if_pos ho]
    exact .inr ⟨by simp, ho⟩
  · rw [if_neg ho, if_neg (by decide), if_neg ?_]
    · by_cases hf : Dm.off st = true
      · rw [if_pos hf]
        exact .inr ⟨by simp, rfl⟩
      · rw [if_neg hf]
        exact .inl ⟨rfl, hld_cut st n⟩
    · unfold Wl.hld at hn
      simp
      omega

theorem sync_was (st : Dm.Ds) : ((Dm.sync st).1 = 0 ∧ Wl.hld (Dm.sync st).2 = Wl.hld st) ∨ ((Dm.sync st).1 ≠ 0 ∧ (Dm.sync st).2.on = false) := by
  unfold Dm.sync
  by_cases ho : st.on = false
  · rw [if_pos ho]
    exact .inr ⟨by simp, ho⟩
  · rw [if_neg ho]
    by_cases hf : Dm.off st = true
    · rw [if_pos hf]
      exact .inr ⟨by simp, rfl⟩
    · rw [if_neg hf]
      refine .inl ⟨rfl, ?_⟩
      show Dm.dof st.sure st.wait 0 = Dm.hold 0 (st.sure 0) st.wait
      rw [Dm.hold_dof]

/-- What is true of a wal and its disk behind k calls. -/
structure In (k : Nat) (s : Wl.Ws) : Prop where
  big : Big (433 * k) (10 * k) s.d
  log : Wl.ask s = false → Wl.hld s.d = Wl.lgb s.l
  len : s.l.length ≤ 433 * k

theorem In.wbig {k : Nat} {s : Wl.Ws} (h : In k s) (hk : k ≤ 100) : WBig s := Big.mono h.big (by omega) (by omega)
theorem In.le {k : Nat} {s : Wl.Ws} (h : In k s) : Wl.ask s = false → (Wl.lgb s.l).length ≤ (Wl.hld s.d).length := fun ha => by rw [h.log ha]; exact Nat.le_refl _

theorem ask_brk {d : Dm.Ds} {l : List Cm.Cv} : Wl.ask ⟨d, l, true⟩ = true := rfl
theorem askX_off {d : Dm.Ds} {l : List Cm.Cv} {b : Bool} (h : d.on = false) : Wl.ask ⟨d, l, b⟩ = true := by unfold Wl.ask; simp [h]

theorem in_app {k : Nat} {s : Wl.Ws} (h : In k s) (c : Cm.Cv) : In (k + 1) (Wl.wapp s c).2 := by
  have hm : Big (433 * (k + 1)) (10 * (k + 1)) s.d := h.big.mono (by omega) (by omega)
  have hl : s.l.length ≤ 433 * (k + 1) := by have := h.len; omega
  unfold Wl.wapp
  by_cases ha : Wl.ask s = true
  · rw [if_pos ha]
    exact ⟨hm, (fun e => by rw [show Wl.ask (6, Wl.brk s).2 = true from rfl] at e; cases e), hl⟩
  rw [if_neg ha]
  by_cases h1 : Cm.chk c.e c.n c.l ≠ 0
  · rw [if_pos h1]
    exact ⟨hm, h.log, hl⟩
  rw [if_neg h1]
  by_cases h2 : c.n - 1 ≠ s.l.length ∨ c.e < Cm.lastE 0 s.l
  · rw [if_pos h2]
    exact ⟨hm, h.log, hl⟩
  rw [if_neg h2]
  have hf := Wl.fr_small (c := c) (by simpa using h1)
  have hb := (big_write h.big 0 (Wl.fr c)).mono (t' := 433 * (k + 1)) (u' := 10 * (k + 1)) (by omega) (by have := cnt_small hf; omega)
  by_cases h3 : (Dm.write s.d 0 (Wl.fr c)).1 ≠ 0
  · rw [if_pos h3]
    exact ⟨hb, (fun e => by rw [ask_brk] at e; cases e), hl⟩
  rw [if_neg h3]
  refine ⟨hb, fun _ => ?_, by show (s.l ++ [c]).length ≤ _; rw [List.length_append, List.length_singleton]; have := h.len; omega⟩
  show Wl.hld (Dm.write s.d 0 (Wl.fr c)).2 = Wl.lgb (s.l ++ [c])
  rw [write_ok (by simpa using h3), h.log (by simpa using ha), Wl.lgb_app, Wl.lgb_one]

theorem in_syn {k : Nat} {s : Wl.Ws} (h : In k s) : In (k + 1) (Wl.wsyn s).2 := by
  have hm : Big (433 * (k + 1)) (10 * (k + 1)) s.d := h.big.mono (by omega) (by omega)
  have hl : s.l.length ≤ 433 * (k + 1) := by have := h.len; omega
  have hb : Big (433 * (k + 1)) (10 * (k + 1)) (Dm.sync s.d).2 := (big_sync h.big).mono (by omega) (by omega)
  unfold Wl.wsyn
  by_cases ha : Wl.ask s = true
  · rw [if_pos ha]
    exact ⟨hm, (fun e => by rw [show Wl.ask (6, Wl.brk s).2 = true from rfl] at e; cases e), hl⟩
  rw [if_neg ha]
  refine ⟨hb, fun e => ?_, hl⟩
  show Wl.hld (Dm.sync s.d).2 = Wl.lgb s.l
  rcases sync_was s.d with ⟨_, e2⟩ | ⟨_, e2⟩
  · rw [e2, h.log (by simpa using ha)]
  · have e3 : Wl.ask ⟨(Dm.sync s.d).2, s.l, decide ((Dm.sync s.d).1 ≠ 0)⟩ = true := askX_off e2
    rw [e3] at e
    cases e

theorem lgb_cut {l : List Cm.Cv} {k : Nat} : (Wl.lgb l).take (Wl.lgb (l.take k)).length = Wl.lgb (l.take k) := (Wl.lgb_take l k).symm

theorem in_cut {k : Nat} {s : Wl.Ws} (h : In k s) (n : Int) : In (k + 1) (Wl.wcut s n).2 := by
  have hm : Big (433 * (k + 1)) (10 * (k + 1)) s.d := h.big.mono (by omega) (by omega)
  have hl : s.l.length ≤ 433 * (k + 1) := by have := h.len; omega
  have hb : Big (433 * (k + 1)) (10 * (k + 1)) (Dm.cutD s.d 0 (Wl.lgb (s.l.take n.toNat)).length).2 := (big_cut h.big 0 _).mono (by omega) (by omega)
  unfold Wl.wcut
  by_cases ha : Wl.ask s = true
  · rw [if_pos ha]
    exact ⟨hm, (fun e => by rw [show Wl.ask (6, Wl.brk s).2 = true from rfl] at e; cases e), hl⟩
  rw [if_neg ha]
  by_cases h1 : n < 0 ∨ (s.l.length : Int) < n
  · rw [if_pos h1]
    exact ⟨hm, h.log, hl⟩
  rw [if_neg h1]
  by_cases h3 : (Dm.cutD s.d 0 (Wl.lgb (s.l.take n.toNat)).length).1 ≠ 0
  · rw [if_pos h3]
    exact ⟨hb, (fun e => by rw [ask_brk] at e; cases e), hl⟩
  rw [if_neg h3]
  refine ⟨hb, fun _ => ?_, by show (s.l.take n.toNat).length ≤ _; rw [List.length_take]; omega⟩
  show Wl.hld (Dm.cutD s.d 0 (Wl.lgb (s.l.take n.toNat)).length).2 = Wl.lgb (s.l.take n.toNat)
  have hl := h.log (by simpa using ha)
  rcases cut_is (st := s.d) (n := (Wl.lgb (s.l.take n.toNat)).length) (by rw [hl]; exact lgb_take_le _ _) with ⟨_, e2⟩ | ⟨e1, _⟩
  · rw [e2, hl, lgb_cut]
  · exact absurd e1 h3

theorem in_fuse {k : Nat} {s : Wl.Ws} (h : In k s) (n : Int) (hn : n ≤ 9223372036854775807) : In (k + 1) ⟨(Dm.fuse s.d n).2, s.l, s.bk⟩ := by
  refine ⟨(big_fuse h.big n hn).mono (by omega) (by omega), ?_, by have := h.len; show s.l.length ≤ _; omega⟩
  have e1 : Wl.hld (Dm.fuse s.d n).2 = Wl.hld s.d := by
    unfold Dm.fuse
    split
    · rfl
    split
    · rfl
    · rfl
  have e2 : Wl.ask ⟨(Dm.fuse s.d n).2, s.l, s.bk⟩ = Wl.ask s := by
    unfold Wl.ask Dm.fuse
    split
    · rfl
    split
    · rfl
    · rfl
  rw [e2]
  intro e
  show Wl.hld (Dm.fuse s.d n).2 = _
  rw [e1, h.log e]

theorem in_next {k : Nat} {s : Wl.Ws} (h : In k s) : In (k + 1) s := ⟨h.big.mono (by omega) (by omega), h.log, by have := h.len; omega⟩

theorem bigX_trm {t u : Nat} {st : Dm.Ds} (n : Nat) (h : Big t u st) : Big t (u + 2) (Wl.trm st n).2 := by
  have h1 := big_cut h 0 n
  have h2 := big_sync h1
  unfold Wl.trm
  split
  · exact h.mono (Nat.le_refl _) (by omega)
  split
  · exact h1.mono (Nat.le_refl _) (by omega)
  split
  · exact h2.mono (Nat.le_refl _) (by omega)
  · exact h2.mono (Nat.le_refl _) (by omega)

theorem trm_was {st : Dm.Ds} {m : List Cm.Cv} (h : Wl.Lg 0 0 (Wl.hld st) m) : ((Wl.trm st (Wl.lgb m).length).1 = 0 ∧ Wl.hld (Wl.trm st (Wl.lgb m).length).2 = Wl.lgb m) ∨ ((Wl.trm st (Wl.lgb m).length).1 ≠ 0 ∧ (Wl.trm st (Wl.lgb m).length).2.on = false) := by
  have e := (Wl.lg_again h).1
  unfold Wl.trm
  by_cases hl : (Wl.hld st).length = (Wl.lgb m).length
  · rw [if_pos hl]
    refine .inl ⟨rfl, ?_⟩
    show Wl.hld st = Wl.lgb m
    rw [← e, ← hl, List.take_length]
  · rw [if_neg hl]
    rcases cut_is (st := st) (n := (Wl.lgb m).length) h.2.1.length_le with ⟨c1, c2⟩ | ⟨c1, c2⟩
    · rw [if_neg (by simp [c1])]
      rcases sync_was (Dm.cutD st 0 (Wl.lgb m).length).2 with ⟨s1, s2⟩ | ⟨s1, s2⟩
      · rw [if_neg (by simp [s1])]
        exact .inl ⟨rfl, by rw [s2, c2, e]⟩
      · rw [if_pos s1]
        exact .inr ⟨by simp, s2⟩
    · rw [if_pos c1]
      exact .inr ⟨by simp, c2⟩

/-- Opened anew. -/
theorem in_open {k : Nat} {s : Wl.Ws} {m : List Cm.Cv} (h : Big (433 * k) (10 * k) s.d) (hl : s.l.length ≤ 433 * k) (hm : Wl.Lg 0 0 (Wl.hld s.d) m) : In (k + 1) (if opE s.d m = 0 then ⟨opD s.d m, m, false⟩ else ⟨opD s.d m, s.l, s.bk⟩) := by
  have hb : Big (433 * (k + 1)) (10 * (k + 1)) (opD s.d m) := by
    unfold opD
    split
    · exact h.mono (by omega) (by omega)
    · exact (bigX_trm _ h).mono (by omega) (by omega)
  unfold opE
  by_cases ho : s.d.on = false
  · rw [if_pos ho, if_neg (by decide)]
    refine ⟨hb, fun e => ?_, by show s.l.length ≤ _; omega⟩
    have : (opD s.d m).on = false := by
      unfold opD
      rw [if_pos ho]
      exact ho
    rw [askX_off this] at e
    cases e
  · rw [if_neg ho]
    have e1 : opD s.d m = (Wl.trm s.d (Wl.lgb m).length).2 := by unfold opD; rw [if_neg ho]
    rcases trm_was hm with ⟨t1, t2⟩ | ⟨t1, t2⟩
    · rw [if_pos t1]
      refine ⟨hb, fun _ => ?_, ?_⟩
      case refine_2 =>
        show m.length ≤ _
        have h1 := Wl.lgb_len m
        have h2 := hm.2.1.length_le
        have h3 := hld_len h
        omega
      show Wl.hld (opD s.d m) = Wl.lgb m
      rw [e1, t2]
    · rw [if_neg t1]
      refine ⟨hb, fun e => ?_, by show s.l.length ≤ _; omega⟩
      rw [← e1] at t2
      rw [askX_off t2] at e
      cases e

end Go.Proofs.YtmkpaedemjiboaaGreat

/- The law's pair: a wal and its disk, and the document's, in memory. -/
namespace Go.Proofs.YtmkpaedemjiboaaGreat
open Go.RowKit
set_option linter.unusedVariables false

/-- The pair's block. -/
def prc (q p y x : Nat) : Array Value := #[.pointer (some ⟨q, 0, none⟩), .pointer (some ⟨p, 0, none⟩), .pointer (some ⟨y, 0, none⟩), .pointer (some ⟨x, 0, none⟩)]

/-- The pair at r: the program's wal p at the disk q, the document's x at y; nothing of it is the caller's (w0: his world). -/
structure PV (w0 : World) (r : Nat) (w : World) (s t : Wl.Ws) (p q x y : Nat) (F G : Nat → Prop) : Prop where
  blk : w.heap[r]? = some (.cells (prc q p y x) 33 (0, 0))
  ww : WW p q F w s
  xx : XX x y G w t
  ap : ∀ g, F g → ¬ G g
  nf : ¬ F r
  ng : ¬ G r
  fb : ∀ g, F g → w0.heap.size ≤ g
  gb : ∀ g, G g → w0.heap.size ≤ g
  rb : w0.heap.size ≤ r
  bel : Below w0.heap.size w0 w

section
variable {w0 w w' : World} {r p q x y : Nat} {s t s' t' : Wl.Ws} {F G : Nat → Prop}

theorem PV.below (h : PV w0 r w s t p q x y F G) (hb : Below w.heap.size w w') : PV w0 r w' s t p q x y F G :=
  ⟨(hb.block r (blk_lt h.blk)).trans h.blk, h.ww.below hb, h.xx.below hb, h.ap, h.nf, h.ng, h.fb, h.gb, h.rb, h.bel.trans (hb.mono h.bel.size)⟩

/-- The program's goes on. -/
theorem PV.stepW (h : PV w0 r w s t p q x y F G) (k : WStep p q F w w' s') : ∃ F', PV w0 r w' s' t p q x y F' G ∧ Out F w w' ∧ ∀ g, F' g → F g ∨ w.heap.size ≤ g := by
  obtain ⟨F', k1, k2, k3⟩ := k
  have hs := h.bel.size
  have hG := h.xx.lt
  have hr := blk_lt h.blk
  refine ⟨F', ⟨(k2.block r hr h.nf).trans h.blk, k1, h.xx.out k2 fun g hg e => h.ap g e hg, fun g hg e => ?_, fun e => ?_, h.ng, fun g hg => ?_, h.gb, h.rb, h.bel.trans (k2.below h.fb h.bel.size)⟩, k2, k3⟩
  · rcases k3 g hg with a | a
    · exact h.ap g a e
    · have := hG g e
      omega
  · rcases k3 r e with a | a
    · exact h.nf a
    · omega
  · rcases k3 g hg with a | a
    · exact h.fb g a
    · omega

/-- The document's goes on. -/
theorem PV.stepX (h : PV w0 r w s t p q x y F G) (k : XStep x y G w w' t') : ∃ G', PV w0 r w' s t' p q x y F G' ∧ Out G w w' ∧ ∀ g, G' g → G g ∨ w.heap.size ≤ g := by
  obtain ⟨G', k1, k2, k3⟩ := k
  have hs := h.bel.size
  have hF := h.ww.lt
  have hr := blk_lt h.blk
  refine ⟨G', ⟨(k2.block r hr h.ng).trans h.blk, h.ww.out k2 fun g hg e => h.ap g hg e, k1, fun g hg e => ?_, h.nf, fun e => ?_, h.fb, fun g hg => ?_, h.rb, h.bel.trans (k2.below h.gb h.bel.size)⟩, k2, k3⟩
  · rcases k3 g e with a | a
    · exact h.ap g hg a
    · have := hF g hg
      omega
  · rcases k3 r e with a | a
    · exact h.ng a
    · omega
  · rcases k3 g hg with a | a
    · exact h.gb g a
    · omega

theorem PV.cells (h : PV w0 r w s t p q x y F G) : w.cell? ⟨r, 0, none⟩ = some (.pointer (some ⟨q, 0, none⟩)) ∧ w.cell? ⟨r, 1, none⟩ = some (.pointer (some ⟨p, 0, none⟩)) ∧ w.cell? ⟨r, 2, none⟩ = some (.pointer (some ⟨y, 0, none⟩)) ∧ w.cell? ⟨r, 3, none⟩ = some (.pointer (some ⟨x, 0, none⟩)) :=
  ⟨blk_cell h.blk 0 rfl, blk_cell h.blk 1 rfl, blk_cell h.blk 2 rfl, blk_cell h.blk 3 rfl⟩

/-- A step of the program's disk. -/
theorem PV.disk (h : PV w0 r w s t p q x y F G) {f : FuncId} {args : Array Value} {st' : Dm.Ds} {e : Int} (hc : ∀ F1, Pk q F1 w s.d → Calls Tryz.prog f args w fun E w' => E = .returned (.int .i64 e) ∧ PStep q F1 w w' st') :
    Calls Tryz.prog f args w fun E w' => E = .returned (.int .i64 e) ∧ ∃ F', PV w0 r w' ⟨st', s.l, s.bk⟩ t p q x y F' G ∧ Out F w w' ∧ ∀ g, F' g → F g ∨ w.heap.size ≤ g := by
  obtain ⟨F1, G1, h1, h2, hF⟩ := id h.ww
  refine (hc F1 h1).mono ?_
  rintro E w' ⟨rfl, PS⟩
  refine ⟨rfl, h.stepW ?_⟩
  obtain ⟨F2, k1, k2, k3, k4⟩ := WW.disk h1 h2 PS
  rw [hF]
  refine ⟨_, ⟨F2, G1, k1, k2, rfl⟩, k3.mono fun g hg => .inl (.inl hg), ?_⟩
  rintro g (e | e)
  · rcases k4 g e with e | e
    · exact .inl (.inl e)
    · exact .inr e
  · exact .inl (.inr e)

/-- A step of the document's disk. -/
theorem PV.diskX (h : PV w0 r w s t p q x y F G) {f : FuncId} {args : Array Value} {st' : Dm.Ds} {e : Int} (hc : ∀ F1, Dk y F1 w t.d → Calls Tryz.prog f args w fun E w' => E = .returned (.int .i64 e) ∧ DStep y F1 w w' st') :
    Calls Tryz.prog f args w fun E w' => E = .returned (.int .i64 e) ∧ ∃ G', PV w0 r w' s ⟨st', t.l, t.bk⟩ p q x y F G' ∧ Out G w w' ∧ ∀ g, G' g → G g ∨ w.heap.size ≤ g := by
  obtain ⟨F1, v, rs, h1, h2, h3, hF⟩ := id h.xx
  refine (hc F1 h1).mono ?_
  rintro E w' ⟨rfl, DS⟩
  refine ⟨rfl, h.stepX ?_⟩
  rw [hF]
  exact XX.disk h1 h2 h3 DS

/-- The program's is opened anew: refused, or another one. -/
theorem PV.openW (h : PV w0 r w s t p q x y F G) (hb : Big 100000000 800000 s.d) :
    Calls Tryz.prog 15 #[.pointer (some ⟨q, 0, none⟩)] w fun E w' => ∃ m, Hid (Wl.Lg 0 0 (Wl.hld s.d) m) ∧
      ((opE s.d m ≠ 0 ∧ E = .returned (.tuple #[.pointer none, .int .i64 (opE s.d m)]) ∧ ∃ F', PV w0 r w' ⟨opD s.d m, s.l, s.bk⟩ t p q x y F' G) ∨
       (opE s.d m = 0 ∧ ∃ p' F', E = .returned (.tuple #[.pointer (some ⟨p', 0, none⟩), .int .i64 0]) ∧ WW p' q F' w' ⟨opD s.d m, m, false⟩ ∧ Out F w w' ∧ ∀ g, F' g → F g ∨ w.heap.size ≤ g)) := by
  obtain ⟨F1, G1, h1, h2, hF⟩ := id h.ww
  refine (wopen_any q F1 w s.d h1 hb).mono ?_
  rintro E w' ⟨m, LG, PS, hc⟩
  refine ⟨m, LG, ?_⟩
  rcases hc with ⟨hn, rfl⟩ | ⟨h0, p', G', rfl, hw, hgn⟩
  · refine .inl ⟨hn, rfl, ?_⟩
    have ST : WStep p q F w w' ⟨opD s.d m, s.l, s.bk⟩ := by
      obtain ⟨F2, k1, k2, k3, k4⟩ := WW.disk h1 h2 PS
      rw [hF]
      refine ⟨_, ⟨F2, G1, k1, k2, rfl⟩, k3.mono fun g hg => .inl (.inl hg), ?_⟩
      rintro g (e | e)
      · rcases k4 g e with e | e
        · exact .inl (.inl e)
        · exact .inr e
      · exact .inl (.inr e)
    obtain ⟨F', k1, _, _⟩ := h.stepW ST
    exact ⟨F', k1⟩
  · obtain ⟨F2, k1, k2, k3⟩ := PS
    refine .inr ⟨h0, p', _, rfl, ⟨F2, G', k1, hw, rfl⟩, k2.mono fun g hg => .inl (by rw [hF]; exact .inl hg), ?_⟩
    rintro g (e | e)
    · rcases k3 g e with e | e
      · exact .inl (by rw [hF]; exact .inl e)
      · exact .inr e
    · exact .inr (hgn g e)

end

end Go.Proofs.YtmkpaedemjiboaaGreat

/- The law's pair is opened anew. -/
namespace Go.Proofs.YtmkpaedemjiboaaGreat
open Go.RowKit
set_option linter.unusedVariables false

/-- What the pair is when it was opened. -/
def Opd (r q y : Nat) (F1 G1 : Nat → Prop) (w : World) (st : Dm.Ds) (w' : World) : Prop :=
  ∃ m, Wl.Lg 0 0 (Wl.hld st) m ∧ ((opE st m ≠ 0 ∧ ∃ w1, PStep q F1 w w1 (opD st m) ∧ DStep y G1 w1 w' (opD st m)) ∨
    (opE st m = 0 ∧ ∃ p x F' G', w'.heap[r]? = some (.cells (prc q p y x) 33 (0, 0)) ∧ WW p q F' w' ⟨opD st m, m, false⟩ ∧ XX x y G' w' ⟨opD st m, m, false⟩ ∧ (∀ g, F' g → ¬ G' g) ∧ (∀ g, F' g → F1 g ∨ w.heap.size ≤ g) ∧ (∀ g, G' g → G1 g ∨ w.heap.size ≤ g) ∧ Out (fun g => F1 g ∨ G1 g ∨ g = r) w w'))

set_option maxRecDepth 20000 in
set_option maxHeartbeats 2000000 in
theorem opened_raw (r q y : Nat) (vp vx : Value) (F1 G1 : Nat → Prop) (w : World) (st : Dm.Ds) (hB : w.heap[r]? = some (.cells #[.pointer (some ⟨q, 0, none⟩), vp, .pointer (some ⟨y, 0, none⟩), vx] 33 (0, 0))) (h1 : Pk q F1 w st) (h2 : Dk y G1 w st) (hd : ∀ g, F1 g → ¬ G1 g) (hf : ¬ F1 r) (hg : ¬ G1 r) (hb : Big 100000000 800000 st) :
    Calls Tryz.prog 8 #[.pointer (some ⟨r, 0, none⟩)] w fun E w' => E = .returned (.bool true) ∧ Opd r q y F1 G1 w st w' := by
  have HW := hide (wopen_any q F1 w st h1 hb)
  have c0 : w.cell? ⟨r, 0, none⟩ = some (.pointer (some ⟨q, 0, none⟩)) := blk_cell hB 0 rfl
  have hrw : r < w.heap.size := blk_lt hB
  have HB := hide hB
  have H2 := hide h2
  have HD := hide hd
  have HF := hide hf
  have HG := hide hg
  have BG := hide hb
  clear hB h1 h2 hd hf hg hb
  go_enter Tryz.func8, Tryz.ntmps8
  go_wp2_with fail
  refine HW.out.mono ?_
  rintro E w1 ⟨m, LG, PS, hc⟩
  clear HW
  obtain ⟨F2, k1, k2, k3⟩ := id PS
  have hB1 := (k2.block r hrw HF.out).trans HB.out
  have d2 : w1.cell? ⟨r, 2, none⟩ = some (.pointer (some ⟨y, 0, none⟩)) := blk_cell hB1 2 rfl
  have D1 : Dk y G1 w1 st := H2.out.out k2 fun g hg e => HD.out g e hg
  have sz1 := k2.size
  have HX : Hid (Calls Tryz.prog 23 #[.pointer (some ⟨y, 0, none⟩)] w1 fun E w' => (opE st m ≠ 0 ∧ E = .returned (.tuple #[.pointer none, .int .i64 (opE st m)]) ∧ DStep y G1 w1 w' (opD st m)) ∨ (opE st m = 0 ∧ ∃ p F', E = .returned (.tuple #[.pointer (some ⟨p, 0, none⟩), .int .i64 0]) ∧ XX p y F' w' ⟨opD st m, m, false⟩ ∧ Out G1 w1 w' ∧ ∀ g, F' g → G1 g ∨ w1.heap.size ≤ g)) := hide (by
    refine (openX_any y G1 w1 st D1 BG.out).mono ?_
    rintro E w' ⟨m', LG', hx⟩
    have : m' = m := Wl.lg_one LG'.out LG.out
    subst this
    exact hx)
  have GLT := hide H2.out.lt
  rcases hc with ⟨hn, rfl⟩ | ⟨h0, p', G', rfl, hw, hgn⟩
  · have PS' := hide PS
    have HN := hide hn
    clear k1 k2 k3 hB1 D1 H2 PS
    go_wp2_with fail
    refine HX.out.mono ?_
    rintro E w2 (⟨_, rfl, DS⟩ | ⟨h0, _⟩)
    · have DS := hide DS
      clear HX hn
      go_wp2
      go_ret
      exact ⟨rfl, m, LG.out, .inl ⟨HN.out, w1, PS'.out, DS.out⟩⟩
    · exact absurd h0 hn
  · have FIN : Hid (∀ w2 xx GX, XX xx y GX w2 ⟨opD st m, m, false⟩ → Out G1 w1 w2 → (∀ g, GX g → G1 g ∨ w1.heap.size ≤ g) → (w2.cell? ⟨r, 1, none⟩ = some vp ∧ w2.cell? ⟨r, 3, none⟩ = some vx ∧ w2.frozen? ⟨r, 1, none⟩ = false ∧ w2.frozen? ⟨r, 3, none⟩ = false) ∧ Opd r q y F1 G1 w st ((w2.setCell ⟨r, 1, none⟩ (.pointer (some ⟨p', 0, none⟩))).setCell ⟨r, 3, none⟩ (.pointer (some ⟨xx, 0, none⟩)))) := hide fun w2 xx GX hX o2 s2 => by
      have hB2 := (o2.block r (by omega) HG.out).trans hB1
      refine ⟨⟨blk_cell hB2 1 rfl, blk_cell hB2 3 rfl, blk_froz hB2 1, blk_froz hB2 3⟩, ?_⟩
      obtain ⟨w3, hw3⟩ : ∃ w3, w2.setCell ⟨r, 1, none⟩ (.pointer (some ⟨p', 0, none⟩)) = w3 := ⟨_, rfl⟩
      have oa : Out (fun g => g = r) w2 w3 := by
        rw [← hw3]
        exact Out.of_grown (grown_setCell w2 ⟨r, 1, none⟩ _) fun g hg => by simp at hg; exact hg.symm
      have hB3 : w3.heap[r]? = some (.cells #[.pointer (some ⟨q, 0, none⟩), .pointer (some ⟨p', 0, none⟩), .pointer (some ⟨y, 0, none⟩), vx] 33 (0, 0)) := by
        rw [← hw3, set_cells hB2]
        rfl
      rw [hw3]
      obtain ⟨w4, hw4⟩ : ∃ w4, w3.setCell ⟨r, 3, none⟩ (.pointer (some ⟨xx, 0, none⟩)) = w4 := ⟨_, rfl⟩
      have ob : Out (fun g => g = r) w3 w4 := by
        rw [← hw4]
        exact Out.of_grown (grown_setCell w3 ⟨r, 3, none⟩ _) fun g hg => by simp at hg; exact hg.symm
      have hB4 : w4.heap[r]? = some (.cells (prc q p' y xx) 33 (0, 0)) := by
        rw [← hw4, set_cells hB3]
        rfl
      rw [hw4]
      have oc : Out (fun g => g = r) w2 w4 := oa.trans ob fun g hg => .inl hg
      have W1 : WW p' q (fun g => F2 g ∨ G' g) w1 ⟨opD st m, m, false⟩ := ⟨F2, G', k1, hw, rfl⟩
      have s1 : ∀ g, (F2 g ∨ G' g) → F1 g ∨ w.heap.size ≤ g := by
        rintro g (e | e)
        · exact k3 g e
        · exact .inr (hgn g e)
      have ng1 : ∀ g, (F2 g ∨ G' g) → ¬ G1 g := fun g e e1 => by
        rcases s1 g e with a | a
        · exact HD.out g a e1
        · have := GLT.out g e1
          omega
      have nr1 : ∀ g, (F2 g ∨ G' g) → ¬ g = r := fun g e e1 => by
        subst e1
        rcases s1 g e with a | a
        · exact HF.out a
        · omega
      have nr2 : ∀ g, GX g → ¬ g = r := fun g e e1 => by
        subst e1
        rcases s2 g e with a | a
        · exact HG.out a
        · omega
      have lt1 := W1.lt
      refine ⟨m, LG.out, .inr ⟨h0, p', xx, _, GX, hB4, (W1.out o2 ng1).out oc nr1, hX.out oc nr2, fun g e e1 => ?_, s1, fun g e => ?_, ?_⟩⟩
      · rcases s2 g e1 with a | a
        · exact ng1 g e a
        · have := lt1 g e
          omega
      · rcases s2 g e with a | a
        · exact .inl a
        · exact .inr (by omega)
      · exact ((k2.mono fun g hg => .inl (.inl hg)).trans o2 fun g hg => .inl (.inr (.inl hg))).trans oc fun g hg => .inl (.inr (.inr hg))
    clear k1 k2 k3 hB1 D1 H2 PS hw hgn
    go_wp2_with fail
    refine HX.out.mono ?_
    rintro E w2 (⟨hn, _⟩ | ⟨_, xx, GX, rfl, hX, o2, s2⟩)
    · exact absurd h0 hn
    obtain ⟨⟨z1, z3, f1, f3⟩, OP⟩ := FIN.out w2 xx GX hX o2 s2
    have OP := hide OP
    clear FIN HX hX o2 s2 d2
    go_wp2
    go_ret
    exact ⟨rfl, OP.out⟩

section
variable {w0 w : World} {r p q x y : Nat} {s : Wl.Ws} {F G : Nat → Prop}

/-- The pair behind it. -/
theorem PV.opened (h : PV w0 r w s s p q x y F G) {k : Nat} (hb : Big (433 * k) (10 * k) s.d) (hl : s.l.length ≤ 433 * k) (hk : k ≤ 100) :
    Calls Tryz.prog 8 #[.pointer (some ⟨r, 0, none⟩)] w fun E w' => E = .returned (.bool true) ∧ (∃ s' p' x' F' G', PV w0 r w' s' s' p' q x' y F' G' ∧ In (k + 1) s') ∧ Out (fun g => F g ∨ G g ∨ g = r) w w' := by
  obtain ⟨F1, G1, h1, h2, hF⟩ := id h.ww
  obtain ⟨F3, v, rs, g1, g2, g3, hG⟩ := id h.xx
  have nf : ¬ F1 r := fun e => h.nf (by rw [hF]; exact .inl e)
  have ng : ¬ F3 r := fun e => h.ng (by rw [hG]; exact .inl e)
  have ap : ∀ g, F1 g → ¬ F3 g := fun g e e1 => h.ap g (by rw [hF]; exact .inl e) (by rw [hG]; exact .inl e1)
  refine (opened_raw r q y _ _ F1 F3 w s.d h.blk h1 g1 ap nf ng (Big.mono hb (by omega) (by omega))).mono ?_
  rintro E w' ⟨rfl, m, hm, hc⟩
  have hin := in_open (s := s) hb hl hm
  refine ⟨rfl, ?_⟩
  rcases hc with ⟨hn, w1, PS, DS⟩ | ⟨h0, p', x', F', G', hB, hW, hX, ha, sF, sG, oo⟩
  · rw [if_neg hn] at hin
    have ST : WStep p q F w w1 ⟨opD s.d m, s.l, s.bk⟩ := by
      obtain ⟨F2, k1, k2, k3, k4⟩ := WW.disk h1 h2 PS
      rw [hF]
      refine ⟨_, ⟨F2, G1, k1, k2, rfl⟩, k3.mono fun g hg => .inl (.inl hg), ?_⟩
      rintro g (e | e)
      · rcases k4 g e with e | e
        · exact .inl (.inl e)
        · exact .inr e
      · exact .inl (.inr e)
    obtain ⟨F', k1, o1, _⟩ := h.stepW ST
    have hG1 : ∀ g, G g → w1.heap[g]? = w.heap[g]? := fun g hg => o1.block g (h.xx.lt g hg) fun e => h.ap g e hg
    have XS : XStep x y G w1 w' ⟨opD s.d m, s.l, s.bk⟩ := by
      rw [hG]
      exact XX.disk (g1.agree (fun g hg => hG1 g (by rw [hG]; exact .inl hg)) o1.size) (g2.agree fun g hg => hG1 g (by rw [hG]; exact .inr hg)) g3 DS
    obtain ⟨G', k2, o2, _⟩ := k1.stepX XS
    exact ⟨⟨_, p, x, F', G', k2, hin⟩, (o1.mono fun g hg => .inl (.inl hg)).trans o2 fun g hg => .inl (.inr (.inl hg))⟩
  · rw [if_pos h0] at hin
    have hs := h.bel.size
    have hr := blk_lt h.blk
    refine ⟨⟨_, p', x', F', G', ⟨hB, hW, hX, ha, fun e => ?_, fun e => ?_, fun g e => ?_, fun g e => ?_, h.rb, h.bel.trans (oo.below (fun g e => ?_) h.bel.size)⟩, hin⟩, oo.mono fun g e => .inl (e.elim (fun a => .inl (by rw [hF]; exact .inl a)) fun a => .inr (a.elim (fun a => .inl (by rw [hG]; exact .inl a)) .inr))⟩
    · rcases sF r e with a | a
      · exact nf a
      · omega
    · rcases sG r e with a | a
      · exact ng a
      · omega
    · rcases sF g e with a | a
      · exact h.fb g (by rw [hF]; exact .inl a)
      · omega
    · rcases sG g e with a | a
      · exact h.gb g (by rw [hG]; exact .inl a)
      · omega
    · rcases e with a | a | a
      · exact h.fb g (by rw [hF]; exact .inl a)
      · exact h.gb g (by rw [hG]; exact .inl a)
      · rw [a]
        exact h.rb

end

end Go.Proofs.YtmkpaedemjiboaaGreat

/- The law's pair: do both tell the same? -/
namespace Go.Proofs.YtmkpaedemjiboaaGreat
open Go.RowKit
set_option linter.unusedVariables false

theorem frl_in {l : List Cm.Cv} {n most : Int} {c : Cm.Cv} (h : c ∈ frl l n most) : c ∈ l := by
  unfold frl at h
  split at h
  · simp at h
  · exact List.mem_of_mem_drop (List.mem_of_mem_take h)

theorem frl_len (l : List Cm.Cv) (n most : Int) : (frl l n most).length ≤ l.length := by
  unfold frl
  split
  · simp
  · rw [List.length_take, List.length_drop]
    omega

/-- What From answers are commits. -/
theorem frl_isc {w : World} {v : Value} {rs : List Cw} {l : List Cm.Cv} {n most : Int} {base : Nat} (hr : RowC w v rs) (hc : CopyR base w rs) (he : cvs rs = frl l n most) (hg : Cm.Good 0 0 l) : IsC w v rs ∧ FitC rs ∧ rs.length ≤ 1048576 := by
  have key : ∀ c ∈ rs, Cm.chk c.e c.n c.l = 0 := by
    intro c hc
    have h1 : c.c ∈ cvs rs := by
      unfold cvs
      exact List.mem_map_of_mem hc
    rw [he] at h1
    obtain ⟨k, hk⟩ := List.getElem?_of_mem (frl_in h1)
    exact (Cm.good_at l 0 0 k c.c hg hk).1
  have hin : ∀ c ∈ rs, (In64 c.e ∧ In64 c.n) ∧ FitO c.l ∧ c.l.length * 40 ≤ 140737488351232 := by
    intro c hc
    obtain ⟨h1, h2, h3, h4, h5⟩ := Cm.chk_zero (key c hc)
    have := (Bm.chkL_zero h5).2.1
    exact ⟨⟨⟨by omega, by omega⟩, ⟨by omega, by omega⟩⟩, (small_of h5).fit, by omega⟩
  have hlen : rs.length = (frl l n most).length := by rw [← he, cvs_length]
  have h1 := frl_len l n most
  have h2 := good_len hg
  exact ⟨⟨hr, fun c hd => ⟨(hc c hd).is, (hin c hd).1⟩⟩, fun c hd => (hin c hd).2, by omega⟩

theorem ofs_len (l : List Cm.Cv) : (ofs l).length ≤ l.length := by
  unfold ofs
  split
  · exact told_len _ _
  · simp

theorem duB_len {t u : Nat} {st : Dm.Ds} (h : Big t u st) (f : Int) : (duB st f).length ≤ t := by
  unfold duB
  split
  · simp
  · have := h.1.1 f.toNat
    omega

end Go.Proofs.YtmkpaedemjiboaaGreat
