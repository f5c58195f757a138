/- Texts of one layer, one behind the other. -/
import Derived.Test.YthmecljkackmbaaGreatZJ3
import Derived.Test.YthmecljkackmbaaGreatZ18
import Derived.Test.YthmecljkackmbaaGreatZ21
/- The law's pair: a runs and its disk, and the document's, in memory. -/
namespace Go.Proofs.YthmecljkackmbaaGreat
open Go.RowKit
set_option linter.unusedVariables false

/-- The pair's block. -/
def rprc (q p y x : Nat) : Array Value := #[.pointer (some ⟨q, 0, none⟩), .pointer (some ⟨p, 0, none⟩), .pointer (some ⟨y, 0, none⟩), .pointer (some ⟨x, 0, none⟩)]

/-- The pair at r: the program's runs p at the disk q, the document's x at y; nothing of it is the caller's (w0: his world). -/
structure RP (w0 : World) (r : Nat) (w : World) (s t : Rl.Rs) (p q x y : Nat) (F G : Nat → Prop) : Prop where
  blk : w.heap[r]? = some (.cells (rprc q p y x) 90 (0, 0))
  ww : RW p q F w s
  xx : XW x y G w t
  ap : ∀ g, F g → ¬ G g
  nf : ¬ F r
  ng : ¬ G r
  fb : ∀ g, F g → w0.heap.size ≤ g
  gb : ∀ g, G g → w0.heap.size ≤ g
  rb : w0.heap.size ≤ r
  bel : Below w0.heap.size w0 w

section
variable {w0 w w' : World} {r p q x y : Nat} {s t s' t' : Rl.Rs} {F G : Nat → Prop}

/-- A step of their disk. -/
theorem XwS.disk {F1 : Nat → Prop} {st st' : Dm.Ds} {l : List Cm.Cv} {bk : Bool} {v : Value} {rs : List Cw} (h1 : Dk y F1 w st) (h2 : XrV x y w l bk v rs) (h3 : ∀ g, XRB x v rs g → ¬ F1 g) (k : DStep y F1 w w' st') : XwS x y (fun g => F1 g ∨ XRB x v rs g) w w' ⟨st', l, bk⟩ := by
  obtain ⟨F2, k1, k2, k3, k4, k5⟩ := XW.disk h1 h2 h3 k
  refine ⟨_, ⟨F2, v, rs, k1, k2, k3, rfl⟩, k4.mono fun g hg => .inl (.inl hg), ?_⟩
  rintro g (e | e)
  · rcases k5 g e with e | e
    · exact .inl (.inl e)
    · exact .inr e
  · exact .inl (.inr e)

theorem RP.below (h : RP w0 r w s t p q x y F G) (hb : Below w.heap.size w w') : RP w0 r w' s t p q x y F G :=
  ⟨(hb.block r (blk_lt h.blk)).trans h.blk, h.ww.below hb, h.xx.below hb, h.ap, h.nf, h.ng, h.fb, h.gb, h.rb, h.bel.trans (hb.mono h.bel.size)⟩

/-- The program's goes on. -/
theorem RP.stepW (h : RP w0 r w s t p q x y F G) (k : RStep p q F w w' s') : ∃ F', RP w0 r w' s' t p q x y F' G ∧ Out F w w' ∧ ∀ g, F' g → F g ∨ w.heap.size ≤ g := by
  obtain ⟨F', k1, k2, k3⟩ := k
  have hs := h.bel.size
  have hG := h.xx.lt
  have hr := blk_lt h.blk
  refine ⟨F', ⟨(k2.block r hr h.nf).trans h.blk, k1, h.xx.out k2 fun g hg e => h.ap g e hg, fun g hg e => ?_, fun e => ?_, h.ng, fun g hg => ?_, h.gb, h.rb, h.bel.trans (k2.below h.fb h.bel.size)⟩, k2, k3⟩
  · rcases k3 g hg with a | a
    · exact h.ap g a e
    · have := hG g e
      omega
  · rcases k3 r e with a | a
    · exact h.nf a
    · omega
  · rcases k3 g hg with a | a
    · exact h.fb g a
    · omega

/-- The document's goes on. -/
theorem RP.stepX (h : RP w0 r w s t p q x y F G) (k : XwS x y G w w' t') : ∃ G', RP w0 r w' s t' p q x y F G' ∧ Out G w w' ∧ ∀ g, G' g → G g ∨ w.heap.size ≤ g := by
  obtain ⟨G', k1, k2, k3⟩ := k
  have hs := h.bel.size
  have hF := h.ww.lt
  have hr := blk_lt h.blk
  refine ⟨G', ⟨(k2.block r hr h.ng).trans h.blk, h.ww.out k2 fun g hg e => h.ap g hg e, k1, fun g hg e => ?_, h.nf, fun e => ?_, h.fb, fun g hg => ?_, h.rb, h.bel.trans (k2.below h.gb h.bel.size)⟩, k2, k3⟩
  · rcases k3 g e with a | a
    · exact h.ap g hg a
    · have := hF g hg
      omega
  · rcases k3 r e with a | a
    · exact h.ng a
    · omega
  · rcases k3 g hg with a | a
    · exact h.gb g a
    · omega

theorem RP.cells (h : RP w0 r w s t p q x y F G) : w.cell? ⟨r, 0, none⟩ = some (.pointer (some ⟨q, 0, none⟩)) ∧ w.cell? ⟨r, 1, none⟩ = some (.pointer (some ⟨p, 0, none⟩)) ∧ w.cell? ⟨r, 2, none⟩ = some (.pointer (some ⟨y, 0, none⟩)) ∧ w.cell? ⟨r, 3, none⟩ = some (.pointer (some ⟨x, 0, none⟩)) :=
  ⟨blk_cell h.blk 0 rfl, blk_cell h.blk 1 rfl, blk_cell h.blk 2 rfl, blk_cell h.blk 3 rfl⟩

/-- A step of the program's disk. -/
theorem RP.disk (h : RP w0 r w s t p q x y F G) {f : FuncId} {args : Array Value} {st' : Dm.Ds} {e : Int} (hc : ∀ F1, Pk q F1 w s.d → Calls Tryz.prog f args w fun E w' => E = .returned (.int .i64 e) ∧ PStep q F1 w w' st') :
    Calls Tryz.prog f args w fun E w' => E = .returned (.int .i64 e) ∧ ∃ F', RP w0 r w' ⟨st', s.l, s.bk⟩ t p q x y F' G ∧ Out F w w' ∧ ∀ g, F' g → F g ∨ w.heap.size ≤ g := by
  obtain ⟨F1, G1, h1, h2, hF⟩ := id h.ww
  refine (hc F1 h1).mono ?_
  rintro E w' ⟨rfl, PS⟩
  refine ⟨rfl, h.stepW ?_⟩
  obtain ⟨F2, k1, k2, k3, k4⟩ := RW.disk h1 h2 PS
  rw [hF]
  refine ⟨_, ⟨F2, G1, k1, k2, rfl⟩, k3.mono fun g hg => .inl (.inl hg), ?_⟩
  rintro g (e | e)
  · rcases k4 g e with e | e
    · exact .inl (.inl e)
    · exact .inr e
  · exact .inl (.inr e)

/-- A step of the document's disk. -/
theorem RP.diskX (h : RP w0 r w s t p q x y F G) {f : FuncId} {args : Array Value} {st' : Dm.Ds} {e : Int} (hc : ∀ F1, Dk y F1 w t.d → Calls Tryz.prog f args w fun E w' => E = .returned (.int .i64 e) ∧ DStep y F1 w w' st') :
    Calls Tryz.prog f args w fun E w' => E = .returned (.int .i64 e) ∧ ∃ G', RP w0 r w' s ⟨st', t.l, t.bk⟩ p q x y F G' ∧ Out G w w' ∧ ∀ g, G' g → G g ∨ w.heap.size ≤ g := by
  obtain ⟨F1, v, rs, h1, h2, h3, hF⟩ := id h.xx
  refine (hc F1 h1).mono ?_
  rintro E w' ⟨rfl, DS⟩
  refine ⟨rfl, h.stepX ?_⟩
  rw [hF]
  exact XwS.disk h1 h2 h3 DS

/-- The program's is opened anew: refused, or another one. -/
theorem RP.openW (h : RP w0 r w s t p q x y F G) (hb : Big 100000000 800000 s.d) :
    Calls Tryz.prog 19 #[.pointer (some ⟨q, 0, none⟩)] w fun E w' => ∃ m, Hid (Rl.Lg 0 (Rl.hld s.d) m) ∧
      ((ropE s.d m ≠ 0 ∧ E = .returned (.tuple #[.pointer none, .int .i64 (ropE s.d m)]) ∧ ∃ F', RP w0 r w' ⟨ropD s.d m, s.l, s.bk⟩ t p q x y F' G) ∨
       (ropE s.d m = 0 ∧ ∃ p' F', E = .returned (.tuple #[.pointer (some ⟨p', 0, none⟩), .int .i64 0]) ∧ RW p' q F' w' ⟨ropD s.d m, m, false⟩ ∧ Out F w w' ∧ ∀ g, F' g → F g ∨ w.heap.size ≤ g)) := by
  obtain ⟨F1, G1, h1, h2, hF⟩ := id h.ww
  refine (hopen_any q F1 w s.d h1 hb).mono ?_
  rintro E w' ⟨m, LG, PS, hc⟩
  refine ⟨m, LG, ?_⟩
  rcases hc with ⟨hn, rfl⟩ | ⟨h0, p', G', rfl, hw, hgn⟩
  · refine .inl ⟨hn, rfl, ?_⟩
    have ST : RStep p q F w w' ⟨ropD s.d m, s.l, s.bk⟩ := by
      obtain ⟨F2, k1, k2, k3, k4⟩ := RW.disk h1 h2 PS
      rw [hF]
      refine ⟨_, ⟨F2, G1, k1, k2, rfl⟩, k3.mono fun g hg => .inl (.inl hg), ?_⟩
      rintro g (e | e)
      · rcases k4 g e with e | e
        · exact .inl (.inl e)
        · exact .inr e
      · exact .inl (.inr e)
    obtain ⟨F', k1, _, _⟩ := h.stepW ST
    exact ⟨F', k1⟩
  · obtain ⟨F2, k1, k2, k3⟩ := PS
    refine .inr ⟨h0, p', _, rfl, ⟨F2, G', k1, hw, rfl⟩, k2.mono fun g hg => .inl (by rw [hF]; exact .inl hg), ?_⟩
    rintro g (e | e)
    · rcases k3 g e with e | e
      · exact .inl (by rw [hF]; exact .inl e)
      · exact .inr e
    · exact .inr (hgn g e)

end

end Go.Proofs.YthmecljkackmbaaGreat

/- Sizes of the runs of a script. -/
namespace Go.Proofs.YthmecljkackmbaaGreat
open Go.RowKit
open Bm (Ov)
set_option linter.unusedVariables false

theorem ens_more : ∀ (l : List Ov), l.length ≤ (Rn.ens l).length
  | [] => by simp [Rn.ens]
  | o :: l => by
    have := ens_more l
    have h1 : 1 ≤ (Om.opEnc o.p o.kl o.vl).length := by
      unfold Om.opEnc
      simp
    simp only [Rn.ens, List.length_cons, List.length_append]
    omega

theorem rec_more (c : Cm.Cv) : c.l.length ≤ (Rl.fr c).length := by
  have h := ens_more c.l
  have e : Rl.fr c = Fm.frm (Rn.encR c.e c.n c.l) := rfl
  rw [e, Fm.frm_len]
  have : (Rn.ens c.l).length ≤ (Rn.encR c.e c.n c.l).length := by
    unfold Rn.encR
    simp only [List.length_append]
    omega
  omega

theorem lgb_more : ∀ (l : List Cm.Cv), (Rl.ops l).length ≤ (Rl.lgb l).length
  | [] => by simp [Rl.ops]
  | c :: l => by
    have h1 := lgb_more l
    have h2 := rec_more c
    rw [Rl.lgb_cons, List.length_append]
    have e : Rl.ops (c :: l) = c.l ++ Rl.ops l := by simp [Rl.ops]
    rw [e, List.length_append]
    omega

theorem fr_forty {c : Cm.Cv} (h : Rn.chk c.e c.n c.l = 0) (hl : c.l.length ≤ 40) : (Rl.fr c).length ≤ 2052 := by
  have h1 := Rn.encR_le h
  have e : Rl.fr c = Fm.frm (Rn.encR c.e c.n c.l) := rfl
  rw [e, Fm.frm_len]
  have := Fm.sz3 (n := (Rn.encR c.e c.n c.l).length) (by omega)
  omega

theorem cnt_forty {n : Nat} (h : n ≤ 2052) : cnt n ≤ 34 := by
  unfold cnt
  omega

theorem big_ext40 {t u : Nat} {st : Dm.Ds} {bs : List Int} (h : Big t u st) (hl : bs.length ≤ 2052) : Big (t + 2052) (u + 35) (Rl.ext st bs).2 := by
  have hb := (big_write h 2 bs).mono (t' := t + 2052) (u' := u + 34) (by omega) (by have := cnt_forty hl; omega)
  unfold Rl.ext
  split
  · exact hb.mono (Nat.le_refl _) (by omega)
  · exact big_sync hb

theorem rbig_trm {t u : Nat} {st : Dm.Ds} (n : Nat) (h : Big t u st) : Big t (u + 2) (Rl.trm st n).2 := by
  have h1 := big_cut h 2 n
  have h2 := big_sync h1
  unfold Rl.trm
  split
  · exact h.mono (Nat.le_refl _) (by omega)
  · split
    · exact h1.mono (Nat.le_refl _) (by omega)
    · split
      · exact h2
      · exact h2

structure RIn (k : Nat) (s : Rl.Rs) : Prop where
  big : Big (2100 * k) (40 * k) s.d
  len : (Rl.ops s.l).length ≤ 2100 * k ∧ s.l.length ≤ 2100 * k

theorem RIn.rbig {k : Nat} {s : Rl.Rs} (h : RIn k s) (hk : k ≤ 100) : RBig s := Big.mono h.big (by omega) (by omega)
theorem rin_next {k : Nat} {s : Rl.Rs} (h : RIn k s) : RIn (k + 1) s := ⟨h.big.mono (by omega) (by omega), by have := h.len; omega, by have := h.len; omega⟩

theorem rin_flu {k : Nat} {s : Rl.Rs} {c : Cm.Cv} (h : RIn k s) (hc : c.l.length ≤ 40) : RIn (k + 1) (Rl.flu s c).2 := by
  have hm : Big (2100 * (k + 1)) (40 * (k + 1)) s.d := h.big.mono (by omega) (by omega)
  have hl := h.len
  unfold Rl.flu
  split
  · exact ⟨hm, by show (Rl.ops s.l).length ≤ _; omega, by show s.l.length ≤ _; omega⟩
  · split
    · exact ⟨hm, by show (Rl.ops s.l).length ≤ _; omega, by show s.l.length ≤ _; omega⟩
    · rename_i hk
      have hk : Rn.chk c.e c.n c.l = 0 := Decidable.not_not.1 hk
      split
      · exact ⟨hm, by show (Rl.ops s.l).length ≤ _; omega, by show s.l.length ≤ _; omega⟩
      · have he : Big (2100 * (k + 1)) (40 * (k + 1)) (Rl.ext s.d (Rl.fr c)).2 := (big_ext40 h.big (fr_forty hk hc)).mono (by omega) (by omega)
        split
        · exact ⟨he, by show (Rl.ops s.l).length ≤ _; omega, by show s.l.length ≤ _; omega⟩
        · refine ⟨he, ?_, ?_⟩
          · show (Rl.ops (s.l ++ [c])).length ≤ _
            rw [Rl.ops_snoc, List.length_append]
            omega
          · show (s.l ++ [c]).length ≤ _
            rw [List.length_append, List.length_singleton]
            omega

theorem rin_fuse {k : Nat} {s : Rl.Rs} (h : RIn k s) (n : Int) (hn : n ≤ 9223372036854775807) : RIn (k + 1) ⟨(Dm.fuse s.d n).2, s.l, s.bk⟩ :=
  ⟨(big_fuse h.big n hn).mono (by omega) (by omega), by have := h.len; show (Rl.ops s.l).length ≤ _; omega, by have := h.len; show s.l.length ≤ _; omega⟩

theorem rin_open {k : Nat} {s : Rl.Rs} {m : List Cm.Cv} (h : Big (2100 * k) (40 * k) s.d) (hl : (Rl.ops s.l).length ≤ 2100 * k ∧ s.l.length ≤ 2100 * k) (hm : Rl.Lg 0 (Rl.hld s.d) m) : RIn (k + 1) (if ropE s.d m = 0 then ⟨ropD s.d m, m, false⟩ else ⟨ropD s.d m, s.l, s.bk⟩) := by
  have hb : Big (2100 * (k + 1)) (40 * (k + 1)) (ropD s.d m) := by
    unfold ropD
    split
    · exact h.mono (by omega) (by omega)
    · exact (rbig_trm _ h).mono (by omega) (by omega)
  split
  · have h1 := lgb_more m
    have h4 := Rl.lgb_len m
    have h2 := hm.2.1.length_le
    have h3 := rhld_len h
    refine ⟨hb, ?_, ?_⟩
    · show (Rl.ops m).length ≤ _
      omega
    · show m.length ≤ _
      omega
  · exact ⟨hb, by show (Rl.ops s.l).length ≤ _; omega, by show s.l.length ≤ _; omega⟩

end Go.Proofs.YthmecljkackmbaaGreat

/- The law's pair is opened anew. -/
namespace Go.Proofs.YthmecljkackmbaaGreat
open Go.RowKit
set_option linter.unusedVariables false

/-- What the pair is when it was opened. -/
def ROpd (r q y : Nat) (F1 G1 : Nat → Prop) (w : World) (st : Dm.Ds) (w' : World) : Prop :=
  ∃ m, Rl.Lg 0 (Rl.hld st) m ∧ ((ropE st m ≠ 0 ∧ ∃ w1, PStep q F1 w w1 (ropD st m) ∧ DStep y G1 w1 w' (ropD st m)) ∨
    (ropE st m = 0 ∧ ∃ p x F' G', w'.heap[r]? = some (.cells (rprc q p y x) 90 (0, 0)) ∧ RW p q F' w' ⟨ropD st m, m, false⟩ ∧ XW x y G' w' ⟨ropD st m, m, false⟩ ∧ (∀ g, F' g → ¬ G' g) ∧ (∀ g, F' g → F1 g ∨ w.heap.size ≤ g) ∧ (∀ g, G' g → G1 g ∨ w.heap.size ≤ g) ∧ Out (fun g => F1 g ∨ G1 g ∨ g = r) w w'))

set_option maxRecDepth 20000 in
set_option maxHeartbeats 2000000 in
theorem ropened_raw (r q y : Nat) (vp vx : Value) (F1 G1 : Nat → Prop) (w : World) (st : Dm.Ds) (hB : w.heap[r]? = some (.cells #[.pointer (some ⟨q, 0, none⟩), vp, .pointer (some ⟨y, 0, none⟩), vx] 90 (0, 0))) (h1 : Pk q F1 w st) (h2 : Dk y G1 w st) (hd : ∀ g, F1 g → ¬ G1 g) (hf : ¬ F1 r) (hg : ¬ G1 r) (hb : Big 100000000 800000 st) :
    Calls Tryz.prog 43 #[.pointer (some ⟨r, 0, none⟩)] w fun E w' => E = .returned (.bool true) ∧ ROpd r q y F1 G1 w st w' := by
  have HW := hide (hopen_any q F1 w st h1 hb)
  have c0 : w.cell? ⟨r, 0, none⟩ = some (.pointer (some ⟨q, 0, none⟩)) := blk_cell hB 0 rfl
  have hrw : r < w.heap.size := blk_lt hB
  have HB := hide hB
  have H2 := hide h2
  have HD := hide hd
  have HF := hide hf
  have HG := hide hg
  have BG := hide hb
  clear hB h1 h2 hd hf hg hb
  go_enter Tryz.func43, Tryz.ntmps43
  go_wp2_with fail
  refine HW.out.mono ?_
  rintro E w1 ⟨m, LG, PS, hc⟩
  clear HW
  obtain ⟨F2, k1, k2, k3⟩ := id PS
  have hB1 := (k2.block r hrw HF.out).trans HB.out
  have d2 : w1.cell? ⟨r, 2, none⟩ = some (.pointer (some ⟨y, 0, none⟩)) := blk_cell hB1 2 rfl
  have D1 : Dk y G1 w1 st := H2.out.out k2 fun g hg e => HD.out g e hg
  have sz1 := k2.size
  have HX : Hid (Calls Tryz.prog 20 #[.pointer (some ⟨y, 0, none⟩)] w1 fun E w' => (ropE st m ≠ 0 ∧ E = .returned (.tuple #[.pointer none, .int .i64 (ropE st m)]) ∧ DStep y G1 w1 w' (ropD st m)) ∨ (ropE st m = 0 ∧ ∃ p F', E = .returned (.tuple #[.pointer (some ⟨p, 0, none⟩), .int .i64 0]) ∧ XW p y F' w' ⟨ropD st m, m, false⟩ ∧ Out G1 w1 w' ∧ ∀ g, F' g → G1 g ∨ w1.heap.size ≤ g)) := hide (by
    refine (xopen_any y G1 w1 st D1 BG.out).mono ?_
    rintro E w' ⟨m', LG', hx⟩
    have : m' = m := Rl.lg_one LG'.out LG.out
    subst this
    exact hx)
  have GLT := hide H2.out.lt
  rcases hc with ⟨hn, rfl⟩ | ⟨h0, p', G', rfl, hw, hgn⟩
  · have PS' := hide PS
    have HN := hide hn
    clear k1 k2 k3 hB1 D1 H2 PS
    go_wp2_with fail
    refine HX.out.mono ?_
    rintro E w2 (⟨_, rfl, DS⟩ | ⟨h0, _⟩)
    · have DS := hide DS
      clear HX hn
      go_wp2
      go_ret
      exact ⟨rfl, m, LG.out, .inl ⟨HN.out, w1, PS'.out, DS.out⟩⟩
    · exact absurd h0 hn
  · have FIN : Hid (∀ w2 xx GX, XW xx y GX w2 ⟨ropD st m, m, false⟩ → Out G1 w1 w2 → (∀ g, GX g → G1 g ∨ w1.heap.size ≤ g) → (w2.cell? ⟨r, 1, none⟩ = some vp ∧ w2.cell? ⟨r, 3, none⟩ = some vx ∧ w2.frozen? ⟨r, 1, none⟩ = false ∧ w2.frozen? ⟨r, 3, none⟩ = false) ∧ ROpd r q y F1 G1 w st ((w2.setCell ⟨r, 1, none⟩ (.pointer (some ⟨p', 0, none⟩))).setCell ⟨r, 3, none⟩ (.pointer (some ⟨xx, 0, none⟩)))) := hide fun w2 xx GX hX o2 s2 => by
      have hB2 := (o2.block r (by omega) HG.out).trans hB1
      refine ⟨⟨blk_cell hB2 1 rfl, blk_cell hB2 3 rfl, blk_froz hB2 1, blk_froz hB2 3⟩, ?_⟩
      obtain ⟨w3, hw3⟩ : ∃ w3, w2.setCell ⟨r, 1, none⟩ (.pointer (some ⟨p', 0, none⟩)) = w3 := ⟨_, rfl⟩
      have oa : Out (fun g => g = r) w2 w3 := by
        rw [← hw3]
        exact Out.of_grown (grown_setCell w2 ⟨r, 1, none⟩ _) fun g hg => by simp at hg; exact hg.symm
      have hB3 : w3.heap[r]? = some (.cells #[.pointer (some ⟨q, 0, none⟩), .pointer (some ⟨p', 0, none⟩), .pointer (some ⟨y, 0, none⟩), vx] 90 (0, 0)) := by
        rw [← hw3, set_cells hB2]
        rfl
      rw [hw3]
      obtain ⟨w4, hw4⟩ : ∃ w4, w3.setCell ⟨r, 3, none⟩ (.pointer (some ⟨xx, 0, none⟩)) = w4 := ⟨_, rfl⟩
      have ob : Out (fun g => g = r) w3 w4 := by
        rw [← hw4]
        exact Out.of_grown (grown_setCell w3 ⟨r, 3, none⟩ _) fun g hg => by simp at hg; exact hg.symm
      have hB4 : w4.heap[r]? = some (.cells (rprc q p' y xx) 90 (0, 0)) := by
        rw [← hw4, set_cells hB3]
        rfl
      rw [hw4]
      have oc : Out (fun g => g = r) w2 w4 := oa.trans ob fun g hg => .inl hg
      have W1 : RW p' q (fun g => F2 g ∨ G' g) w1 ⟨ropD st m, m, false⟩ := ⟨F2, G', k1, hw, rfl⟩
      have s1 : ∀ g, (F2 g ∨ G' g) → F1 g ∨ w.heap.size ≤ g := by
        rintro g (e | e)
        · exact k3 g e
        · exact .inr (hgn g e)
      have ng1 : ∀ g, (F2 g ∨ G' g) → ¬ G1 g := fun g e e1 => by
        rcases s1 g e with a | a
        · exact HD.out g a e1
        · have := GLT.out g e1
          omega
      have nr1 : ∀ g, (F2 g ∨ G' g) → ¬ g = r := fun g e e1 => by
        subst e1
        rcases s1 g e with a | a
        · exact HF.out a
        · omega
      have nr2 : ∀ g, GX g → ¬ g = r := fun g e e1 => by
        subst e1
        rcases s2 g e with a | a
        · exact HG.out a
        · omega
      have lt1 := W1.lt
      refine ⟨m, LG.out, .inr ⟨h0, p', xx, _, GX, hB4, (W1.out o2 ng1).out oc nr1, hX.out oc nr2, fun g e e1 => ?_, s1, fun g e => ?_, ?_⟩⟩
      · rcases s2 g e1 with a | a
        · exact ng1 g e a
        · have := lt1 g e
          omega
      · rcases s2 g e with a | a
        · exact .inl a
        · exact .inr (by omega)
      · exact ((k2.mono fun g hg => .inl (.inl hg)).trans o2 fun g hg => .inl (.inr (.inl hg))).trans oc fun g hg => .inl (.inr (.inr hg))
    clear k1 k2 k3 hB1 D1 H2 PS hw hgn
    go_wp2_with fail
    refine HX.out.mono ?_
    rintro E w2 (⟨hn, _⟩ | ⟨_, xx, GX, rfl, hX, o2, s2⟩)
    · exact absurd h0 hn
    obtain ⟨⟨z1, z3, f1, f3⟩, OP⟩ := FIN.out w2 xx GX hX o2 s2
    have OP := hide OP
    clear FIN HX hX o2 s2 d2
    go_wp2
    go_ret
    exact ⟨rfl, OP.out⟩

section
variable {w0 w : World} {r p q x y : Nat} {s : Rl.Rs} {F G : Nat → Prop}

/-- The pair behind it. -/
theorem RP.opened (h : RP w0 r w s s p q x y F G) {k : Nat} (hb : Big (2100 * k) (40 * k) s.d) (hl : (Rl.ops s.l).length ≤ 2100 * k ∧ s.l.length ≤ 2100 * k) (hk : k ≤ 100) :
    Calls Tryz.prog 43 #[.pointer (some ⟨r, 0, none⟩)] w fun E w' => E = .returned (.bool true) ∧ (∃ s' p' x' F' G', RP w0 r w' s' s' p' q x' y F' G' ∧ RIn (k + 1) s') ∧ Out (fun g => F g ∨ G g ∨ g = r) w w' := by
  obtain ⟨F1, G1, h1, h2, hF⟩ := id h.ww
  obtain ⟨F3, v, rs, g1, g2, g3, hG⟩ := id h.xx
  have nf : ¬ F1 r := fun e => h.nf (by rw [hF]; exact .inl e)
  have ng : ¬ F3 r := fun e => h.ng (by rw [hG]; exact .inl e)
  have ap : ∀ g, F1 g → ¬ F3 g := fun g e e1 => h.ap g (by rw [hF]; exact .inl e) (by rw [hG]; exact .inl e1)
  refine (ropened_raw r q y _ _ F1 F3 w s.d h.blk h1 g1 ap nf ng (Big.mono hb (by omega) (by omega))).mono ?_
  rintro E w' ⟨rfl, m, hm, hc⟩
  have hin := rin_open (s := s) hb hl hm
  refine ⟨rfl, ?_⟩
  rcases hc with ⟨hn, w1, PS, DS⟩ | ⟨h0, p', x', F', G', hB, hW, hX, ha, sF, sG, oo⟩
  · rw [if_neg hn] at hin
    have ST : RStep p q F w w1 ⟨ropD s.d m, s.l, s.bk⟩ := by
      obtain ⟨F2, k1, k2, k3, k4⟩ := RW.disk h1 h2 PS
      rw [hF]
      refine ⟨_, ⟨F2, G1, k1, k2, rfl⟩, k3.mono fun g hg => .inl (.inl hg), ?_⟩
      rintro g (e | e)
      · rcases k4 g e with e | e
        · exact .inl (.inl e)
        · exact .inr e
      · exact .inl (.inr e)
    obtain ⟨F', k1, o1, _⟩ := h.stepW ST
    have hG1 : ∀ g, G g → w1.heap[g]? = w.heap[g]? := fun g hg => o1.block g (h.xx.lt g hg) fun e => h.ap g e hg
    have XS : XwS x y G w1 w' ⟨ropD s.d m, s.l, s.bk⟩ := by
      rw [hG]
      exact XwS.disk (g1.agree (fun g hg => hG1 g (by rw [hG]; exact .inl hg)) o1.size) (g2.agree fun g hg => hG1 g (by rw [hG]; exact .inr hg)) g3 DS
    obtain ⟨G', k2, o2, _⟩ := k1.stepX XS
    exact ⟨⟨_, p, x, F', G', k2, hin⟩, (o1.mono fun g hg => .inl (.inl hg)).trans o2 fun g hg => .inl (.inr (.inl hg))⟩
  · rw [if_pos h0] at hin
    have hs := h.bel.size
    have hr := blk_lt h.blk
    refine ⟨⟨_, p', x', F', G', ⟨hB, hW, hX, ha, fun e => ?_, fun e => ?_, fun g e => ?_, fun g e => ?_, h.rb, h.bel.trans (oo.below (fun g e => ?_) h.bel.size)⟩, hin⟩, oo.mono fun g e => .inl (e.elim (fun a => .inl (by rw [hF]; exact .inl a)) fun a => .inr (a.elim (fun a => .inl (by rw [hG]; exact .inl a)) .inr))⟩
    · rcases sF r e with a | a
      · exact nf a
      · omega
    · rcases sG r e with a | a
      · exact ng a
      · omega
    · rcases sF g e with a | a
      · exact h.fb g (by rw [hF]; exact .inl a)
      · omega
    · rcases sG g e with a | a
      · exact h.gb g (by rw [hG]; exact .inl a)
      · omega
    · rcases e with a | a | a
      · exact h.fb g (by rw [hF]; exact .inl a)
      · exact h.gb g (by rw [hG]; exact .inl a)
      · rw [a]
        exact h.rb

end

end Go.Proofs.YthmecljkackmbaaGreat
