/- Texts of one layer, one behind the other. -/
import Derived.Test.YtmmfakpphjjjfaaGreatG24
import Derived.Deep.RegionHeld3
import Derived.Deep.RegionLaw
/- Open of runs, and what is put behind the file. -/
namespace Go.Proofs.YtmmfakpphjjjfaaGreat
open Go.RowKit
set_option linter.unusedVariables false

theorem rq_pk {base q : Nat} {F : Nat → Prop} {w : World} {l : List Cm.Cv} {v : Value} {rs : List Cw} {st : Dm.Ds} (h : Rq base w l v rs) (k : Pk q F w st) : ∀ g, QB v rs g → ¬ F g := by
 intro g hg hf
 obtain ⟨cs, t, e, ht⟩ := h.ty g hg
 obtain ⟨cs', t', fr, e', ht'⟩ := k.ty g hf
 rw [e] at e'
 simp only [Option.some.injEq, Obj.cells.injEq] at e'
 obtain ⟨_, e2, _⟩ := e'
 subst e2
 rcases ht with rfl | rfl <;> rcases ht' with e | e | e <;> exact absurd e (by decide)

theorem Rq.out {base : Nat} {F : Nat → Prop} {w w' : World} {l : List Cm.Cv} {v : Value} {rs : List Cw} (h : Rq base w l v rs) (ho : Out F w w') (hd : ∀ g, QB v rs g → ¬ F g) : Rq base w' l v rs := h.agree fun g hg => ho.block g (h.lt g hg) (hd g hg)

def ropE (st : Dm.Ds) (l : List Cm.Cv) : Int := if st.on = false then 6 else (Rl.trm st (Rl.lgb l).length).1
def ropD (st : Dm.Ds) (l : List Cm.Cv) : Dm.Ds := if st.on = false then st else (Rl.trm st (Rl.lgb l).length).2

theorem rtrm_e (st : Dm.Ds) (n : Nat) : (Rl.trm st n).1 = 0 ∨ (Rl.trm st n).1 = 6 := by
 unfold Rl.trm
 split
 ·exact .inl rfl
 split
 ·exact .inr rfl
 split
 ·exact .inr rfl
 ·exact .inl rfl

theorem rcut_e {st : Dm.Ds} {n : Nat} (ho : st.on = true) (hn : n ≤ (Rl.hld st).length) : (Dm.cutD st 2 n).1 = 0 ∨ (Dm.cutD st 2 n).1 = 6 := by
 unfold Dm.cutD
 rw [if_neg (by simp [ho]), if_neg (by decide), if_neg ?_]
 ·split
  ·exact .inr rfl
  ·exact .inl rfl
 ·unfold Rl.hld at hn
  simp
  omega

theorem rtrm_go {st : Dm.Ds} {n : Nat} (ho : st.on = true) (hn : n ≤ (Rl.hld st).length) (hne : (Rl.hld st).length ≠ n) :
  (if (Dm.cutD st 2 n).1 ≠ 0 then (Dm.cutD st 2 n).1 else (Dm.sync (Dm.cutD st 2 n).2).1) = (Rl.trm st n).1 ∧ (if (Dm.cutD st 2 n).1 ≠ 0 then (Dm.cutD st 2 n).2 else (Dm.sync (Dm.cutD st 2 n).2).2) = (Rl.trm st n).2 := by
 unfold Rl.trm
 rw [if_neg hne]
 rcases rcut_e ho hn with e | e
 ·rw [e]
  simp only [ne_eq, not_true, if_false]
  rcases Rl.sync_e (Dm.cutD st 2 n).2 with f | f
  ·rw [f]; simp
  ·rw [f]; simp
 ·rw [e]
  simp

theorem rhld_len {st : Dm.Ds} {t u : Nat} (h : Big t u st) : (Rl.hld st).length ≤ t := by
 unfold Rl.hld
 exact Nat.le_trans (Dm.hold_len st.wait (st.sure 2) 2) (h.1.1 2)

theorem rdB_rhld {st : Dm.Ds} (ho : st.on = true) : rdB st 2 = Rl.hld st ∧ rdE st 2 = 0 := by
 unfold rdB rdE
 rw [if_neg (by simp [ho]), if_neg (by decide), if_neg (by simp [ho]), if_neg (by decide)]
 exact ⟨rfl, rfl⟩

theorem PStep.post3 {p : Nat} {F : Nat → Prop} {w w1 w2 : World} {st : Dm.Ds} (h : PStep p F w w1 st) (hb : Below w1.heap.size w1 w2) : PStep p F w w2 st := by
 obtain ⟨F1, h1, h2, h3⟩ := h
 exact ⟨F1, h1.below hb, h2.trans (Out.of_below (F := F) hb) fun g hg => .inl hg, h3⟩

set_option maxRecDepth 20000 in
set_option maxHeartbeats 2000000 in
theorem hopen_any (q : Nat) (F : Nat → Prop) (w : World) (st : Dm.Ds) (h : Pk q F w st) (hs : Big 100000000 800000 st) :
  Calls Tryz.prog 8 #[.pointer (some ⟨q, 0, none⟩)] w fun E w' => ∃ l, Hid (Rl.Lg 0 (Rl.hld st) l) ∧ PStep q F w w' (ropD st l) ∧
   ((ropE st l ≠ 0 ∧ E = .returned (.tuple #[.pointer none, .int .i64 (ropE st l)])) ∨ (ropE st l = 0 ∧ ∃ p G, E = .returned (.tuple #[.pointer (some ⟨p, 0, none⟩), .int .i64 0]) ∧ Rk p q G w' l false ∧ ∀ g, G g → w.heap.size ≤ g)) := by
 have HR := hide (dread_any q F w st 2 h (fun f => Nat.le_trans (hs.1.1 f) (by decide)) (Nat.le_trans hs.1.2.1 (by decide)))
 have HK := hide h
 have HS := hide hs
 cases hon : st.on with
 | false =>
  obtain ⟨l, hl⟩ := Rl.lg_is 0 (Rl.hld st)
  have e1 : ropE st l = 6 := by unfold ropE; rw [if_pos hon]
  have e2 : ropD st l = st := by unfold ropD; rw [if_pos hon]
  have E1 := hide e1
  have E2 := hide e2
  have HL := hide hl
  have er : rdE st 2 = 6 := by unfold rdE; rw [if_pos hon]
  rw [er] at HR
  clear h hs hon e1 e2 hl er
  go_enter Tryz.func8, Tryz.ntmps8
  go_wp2_with fail
  refine HR.out.mono ?_
  rintro E w1 ⟨v, rfl, own, bel⟩
  obtain ⟨a, c, hv, _, _⟩ := own.is.shape
  subst hv
  have PS := hide (PStep.same HK.out bel)
  clear own bel HR
  go_wp2
  go_ret2
  exact ⟨l, HL, by rw [E2.out]; exact PS.out, .inl ⟨by rw [E1.out]; decide, by rw [E1.out]; rfl⟩⟩
 | true =>
  obtain ⟨er, ee⟩ := rdB_rhld hon
  rw [er, ee] at HR
  have hlen := rhld_len hs
  have HO := hide hon
  clear h hs er ee
  go_enter Tryz.func8, Tryz.ntmps8
  go_wp2_with fail
  refine HR.out.mono ?_
  rintro E w1 ⟨v, rfl, own, bel⟩
  have HW := hide (hscan_any v (Rl.hld st) w1 own.is (by omega))
  obtain ⟨a, c, hv, _, _⟩ := own.is.shape
  subst hv
  have sz1 := bel.size
  clear own HR
  go_wp2_with fail
  refine HW.out.mono ?_
  rintro E w2 ⟨l, vl, rs, rfl, L2, bel2, LG⟩
  have sz2 := bel2.size
  have b02 := bel.trans (bel2.mono bel.size)
  have K2 := hide (HK.out.below b02)
  have hle : (Rl.lgb l).length ≤ (Rl.hld st).length := LG.out.2.1.length_le
  obtain ⟨la, ln, lk, hvl⟩ : ∃ a n k, vl = .slice a n k := by
   obtain ⟨a1, k1, h1, _⟩ := L2.row.row.shape
   exact ⟨a1, _, k1, h1⟩
  subst hvl
  have HL2 := hide L2
  have B02 := hide b02
  obtain ⟨z, hz⟩ : ∃ z, (Rl.lgb l).length = z := ⟨_, rfl⟩
  rw [hz] at hle ⊢
  have HZ := hide hz
  obtain ⟨m, hm⟩ : ∃ m, (Rl.hld st).length = m := ⟨_, rfl⟩
  rw [hm] at hle hlen ⊢
  have HMM := hide hm
  clear L2 bel2 HW hz b02 bel hm
  by_cases hq : m = z
  ·have e1 : ropE st l = 0 := by unfold ropE Rl.trm; rw [if_neg (by rw [HO.out]; decide), if_pos (by rw [HZ.out, HMM.out]; exact hq)]
   have e2 : ropD st l = st := by unfold ropD Rl.trm; rw [if_neg (by rw [HO.out]; decide), if_pos (by rw [HZ.out, HMM.out]; exact hq)]
   have E1 := hide e1
   have E2 := hide e2
   have hb : ¬ ((z : Int) < (m : Int)) := by omega
   obtain ⟨W, hW, szW, belW, bW⟩ := blk_step w2 #[.pointer (some ⟨q, 0, none⟩), .bool false, .slice la ln lk] 81
   have G := hide (show Rk w2.heap.size q (fun g => g = w2.heap.size ∨ QB (.slice la ln lk) rs g) W l false ∧ (∀ g, (g = w2.heap.size ∨ QB (.slice la ln lk) rs g) → w.heap.size ≤ g) ∧ Below w.heap.size w W from ⟨⟨_, rs, ⟨bW, (HL2.out.below belW).rebase (Nat.zero_le _)⟩, rfl⟩, by
    rintro g (e | e)
    ·omega
    ·have := HL2.out.ge g e
     omega, B02.out.trans (belW.mono (by omega))⟩)
   clear e1 e2 hq bW belW
   go_wp2
   go_ret2
   exact ⟨l, LG, by rw [E2.out]; exact PStep.same HK.out G.out.2.2, .inr ⟨E1.out, _, _, rfl, G.out.1, G.out.2.1⟩⟩
  ·have hb : (z : Int) < (m : Int) := by omega
   have HT := hide (htrim_any q F w2 st (z : Int) K2.out HS.out)
   obtain ⟨t1, t2⟩ := rtrm_go (n := z) HO.out (by rw [HMM.out]; exact hle) (by rw [HMM.out]; exact hq)
   rw [t1, t2] at HT
   have e1 : ropE st l = (Rl.trm st z).1 := by unfold ropE; rw [if_neg (by rw [HO.out]; decide), HZ.out]
   have e2 : ropD st l = (Rl.trm st z).2 := by unfold ropD; rw [if_neg (by rw [HO.out]; decide), HZ.out]
   rw [← e1, ← e2] at HT
   have e01 : ropE st l = 0 ∨ ropE st l = 6 := by rw [e1]; exact rtrm_e st z
   clear e1 e2 t1 t2
   go_wp2_with fail
   refine HT.out.mono ?_
   rintro E w5 ⟨rfl, PS⟩
   have P0 := hide (PStep.pre B02.out PS)
   have L5 : Hid (Rq w1.heap.size w5 l (.slice la ln lk) rs ∧ w2.heap.size ≤ w5.heap.size) := hide (by
    obtain ⟨F', _, ho, _⟩ := PS
    exact ⟨HL2.out.out ho (rq_pk HL2.out K2.out), ho.size⟩)
   generalize hoe : ropE st l = oe at *
   have HOE := hide hoe
   clear PS HT hoe
   rcases e01 with rfl | rfl
   ·obtain ⟨W, hW, szW, belW, bW⟩ := blk_step w5 #[.pointer (some ⟨q, 0, none⟩), .bool false, .slice la ln lk] 81
    have sz5 := L5.out.2
    have G := hide (show Rk w5.heap.size q (fun g => g = w5.heap.size ∨ QB (.slice la ln lk) rs g) W l false ∧ (∀ g, (g = w5.heap.size ∨ QB (.slice la ln lk) rs g) → w.heap.size ≤ g) ∧ PStep q F w W (ropD st l) from ⟨⟨_, rs, ⟨bW, (L5.out.1.below belW).rebase (Nat.zero_le _)⟩, rfl⟩, by
     rintro g (e | e)
     ·omega
     ·have := L5.out.1.ge g e
      omega, P0.out.post3 belW⟩)
    clear bW belW
    go_wp2
    go_ret2
    exact ⟨l, LG, G.out.2.2, .inr ⟨HOE.out, _, _, rfl, G.out.1, G.out.2.1⟩⟩
   ·go_wp2
    go_ret2
    exact ⟨l, LG, P0.out, .inl ⟨by rw [HOE.out]; decide, by rw [HOE.out]; rfl⟩⟩

def RBig (s : Rl.Rs) : Prop := Big 90000000 700000 s.d
theorem RBig.big {s : Rl.Rs} (h : RBig s) : Big 100000000 800000 s.d := Big.mono h (by decide) (by decide)

theorem cnt_run {n : Nat} (h : n ≤ 52236) : cnt n ≤ 817 := by
 unfold cnt
 omega

set_option maxHeartbeats 1000000 in
theorem hextend_any (q : Nat) (F : Nat → Prop) (w : World) (st : Dm.Ds) (vb : Value) (bs : List Int) (h : Pk q F w st) (hs : Big 90000000 700000 st) (hb : Own .u8 5 0 w vb bs) (hbF : ∀ b, vb.ownBlock = some b → ¬ F b) (hl : bs.length ≤ 52236) :
  Calls Tryz.prog 123 #[.pointer (some ⟨q, 0, none⟩), vb] w fun E w' => E = .returned (.int .i64 (Rl.ext st bs).1) ∧ PStep q F w w' (Rl.ext st bs).2 := by
 have hc := cnt_run hl
 have HW := hide (write_any q F w st 2 vb bs h hb.is (fun _ => hbF) (by omega) (by have := hs.1.2.1; omega) hs.2 (by have := hs.1.2.2; omega))
 have hs2 : Big 100000000 800000 (Dm.write st 2 bs).2 := (big_write hs 2 bs).mono (by omega) (by omega)
 have HSY : Hid (∀ W G, Pk q G W (Dm.write st 2 bs).2 → Calls Tryz.prog 70 #[.pointer (some ⟨q, 0, none⟩)] W fun E w' => E = .returned (.int .i64 (Dm.sync (Dm.write st 2 bs).2).1) ∧ PStep q G W w' (Dm.sync (Dm.write st 2 bs).2).2) := hide fun W G hk => sync_any q G W _ hk (fun f => Nat.le_trans (hs2.1.1 f) (by decide)) (Nat.le_trans hs2.1.2.1 (by decide)) hs2.2 (Nat.lt_of_le_of_lt hs2.1.2.2 (by decide))
 obtain ⟨a, c, hv, _, _⟩ := hb.is.shape
 unfold Rl.ext
 generalize Dm.write st 2 bs = x at *
 obtain ⟨e, st2⟩ := x
 simp only at *
 generalize Dm.sync st2 = y at *
 obtain ⟨f, st3⟩ := y
 simp only at *
 subst hv
 clear h hs hs2 hb
 by_cases he : e = 0
 ·subst he
  simp only [ne_eq, not_true, if_false]
  go_enter Tryz.func123, Tryz.ntmps123
  go_wp2_with fail
  refine HW.out.mono ?_
  rintro E w1 ⟨rfl, F1, k1, k2, k3⟩
  have HS1 := hide (HSY.out w1 F1 k1)
  have K2 := hide k2
  have K3 := hide k3
  clear k1 k2 k3 HW HSY
  go_wp2_with fail
  refine HS1.out.mono ?_
  rintro E w2 ⟨rfl, J⟩
  have J := hide (PStep.trans K2.out K3.out J)
  go_wp2
  go_ret
  exact ⟨rfl, J.out⟩
 ·simp only [ne_eq, he, not_false_eq_true, if_true]
  have hne : (e != 0) = true := by simp [he]
  go_enter Tryz.func123, Tryz.ntmps123
  go_wp2_with fail
  refine HW.out.mono ?_
  rintro E w1 ⟨rfl, J⟩
  have J := hide J
  clear HW HSY
  go_wp2
  go_ret
  exact ⟨rfl, J.out⟩

end Go.Proofs.YtmmfakpphjjjfaaGreat

/- The document's runs and their disk: Open, Flush. -/
namespace Go.Proofs.YtmmfakpphjjjfaaGreat
open Go.RowKit
open Bm (Ov)
set_option linter.unusedVariables false

theorem Tryz.enters138 : ∀ args w, (callFunc 138 args).run Tryz.prog w = .ok (.enter 138 args) w := enters_of Tryz.func138 (by kernel_rfl) rfl

def XRB (x : Nat) (v : Value) (rs : List Cw) (g : Nat) : Prop := g = x ∨ QB v rs g

section
variable {x y : Nat} {F G : Nat → Prop} {w w' w1 w2 : World} {s s' : Rl.Rs} {l : List Cm.Cv} {bk : Bool} {v : Value} {rs : List Cw}

theorem XrV.lt (h : XrV x y w l bk v rs) : ∀ g, XRB x v rs g → g < w.heap.size := by
 rintro g (rfl | hg)
 ·exact blk_lt h.blk
 ·exact h.log.lt g hg

theorem XrV.agree (h : XrV x y w l bk v rs) (ha : ∀ g, XRB x v rs g → w'.heap[g]? = w.heap[g]?) : XrV x y w' l bk v rs := ⟨(ha x (.inl rfl)).trans h.blk, h.log.agree fun g hg => ha g (.inr hg)⟩

def XW (x y : Nat) (F : Nat → Prop) (w : World) (s : Rl.Rs) : Prop := ∃ F1 v rs, Dk y F1 w s.d ∧ XrV x y w s.l s.bk v rs ∧ (∀ g, XRB x v rs g → ¬ F1 g) ∧ F = fun g => F1 g ∨ XRB x v rs g

def XwS (x y : Nat) (F : Nat → Prop) (w w' : World) (s' : Rl.Rs) : Prop := ∃ F', XW x y F' w' s' ∧ Out F w w' ∧ ∀ g, F' g → F g ∨ w.heap.size ≤ g

theorem XW.lt (h : XW x y F w s) : ∀ g, F g → g < w.heap.size := by
 obtain ⟨F1, v, rs, h1, h2, _, rfl⟩ := h
 rintro g (hg | hg)
 ·exact h1.lt g hg
 ·exact h2.lt g hg
theorem XW.agree (h : XW x y F w s) (ha : ∀ g, F g → w'.heap[g]? = w.heap[g]?) (hs : w.heap.size ≤ w'.heap.size) : XW x y F w' s := by
 obtain ⟨F1, v, rs, h1, h2, h3, rfl⟩ := h
 exact ⟨F1, v, rs, h1.agree (fun g hg => ha g (.inl hg)) hs, h2.agree fun g hg => ha g (.inr hg), h3, rfl⟩
theorem XW.below (h : XW x y F w s) (hb : Below w.heap.size w w') : XW x y F w' s := h.agree (fun g hg => hb.block g (h.lt g hg)) hb.size
theorem XW.out (h : XW x y F w s) (ho : Out G w w') (hd : ∀ g, F g → ¬ G g) : XW x y F w' s := h.agree (fun g hg => ho.block g (h.lt g hg) (hd g hg)) ho.size

theorem XwS.trans {F1 : Nat → Prop} (ho : Out F w w1) (hs : ∀ g, F1 g → F g ∨ w.heap.size ≤ g) (k : XwS x y F1 w1 w2 s') : XwS x y F w w2 s' := by
 obtain ⟨F2, h1, h2, h3⟩ := k
 refine ⟨F2, h1, ho.trans h2 hs, fun g hg => ?_⟩
 rcases h3 g hg with h | h
 ·exact hs g h
 ·exact .inr (Nat.le_trans ho.size h)
theorem XwS.same (h : XW x y F w s) (hb : Below w.heap.size w w') : XwS x y F w w' s := ⟨F, h.below hb, Out.of_below hb, fun g hg => .inl hg⟩
theorem XwS.pre (hb : Below w.heap.size w w1) (h : XwS x y F w1 w2 s') : XwS x y F w w2 s' := h.trans (Out.of_below hb) fun g hg => .inl hg

theorem XW.disk {F1 : Nat → Prop} {st st' : Dm.Ds} (h1 : Dk y F1 w st) (h2 : XrV x y w l bk v rs) (h3 : ∀ g, XRB x v rs g → ¬ F1 g) (k : DStep y F1 w w' st') :
  ∃ F2, Dk y F2 w' st' ∧ XrV x y w' l bk v rs ∧ (∀ g, XRB x v rs g → ¬ F2 g) ∧ Out F1 w w' ∧ ∀ g, F2 g → F1 g ∨ w.heap.size ≤ g := by
 obtain ⟨F2, k1, k2, k3⟩ := k
 refine ⟨F2, k1, h2.agree fun g hg => k2.block g (h2.lt g hg) (h3 g hg), fun g hg hf => ?_, k2, k3⟩
 rcases k3 g hf with e | e
 ·exact h3 g hg e
 ·have := h2.lt g hg
  omega

theorem XW.flag (h : XW x y F w s) (b : Bool) : XwS x y F w (w.setCell ⟨x, 3, none⟩ (.bool b)) ⟨s.d, s.l, b⟩ := by
 obtain ⟨F1, v, rs, h1, h2, h3, rfl⟩ := h
 have ho : Out (fun g => g = x) w (w.setCell ⟨x, 3, none⟩ (.bool b)) := Out.of_grown (grown_setCell w ⟨x, 3, none⟩ (.bool b)) fun g hg => by simp at hg; exact hg.symm
 have h2' : XrV x y (w.setCell ⟨x, 3, none⟩ (.bool b)) s.l b v rs := ⟨by rw [set_cells h2.blk]; rfl, h2.log.agree fun g hg => ho.block g (h2.log.lt g hg) fun e => h2.log.ne h2.blk (by decide) (by decide) (e ▸ hg)⟩
 exact ⟨_, ⟨F1, v, rs, h1.out ho fun g hg e => h3 g (.inl e) hg, h2', h3, rfl⟩, ho.mono fun g hg => .inl (.inr (.inl hg)), fun g hg => .inl hg⟩

end

set_option maxRecDepth 20000 in
set_option maxHeartbeats 2000000 in
theorem xopen_any (q : Nat) (F : Nat → Prop) (w : World) (st : Dm.Ds) (h : Dk q F w st) (hs : Big 100000000 800000 st) :
  Calls Tryz.prog 9 #[.pointer (some ⟨q, 0, none⟩)] w fun E w' => ∃ l, Hid (Rl.Lg 0 (Rl.hld st) l) ∧
   ((ropE st l ≠ 0 ∧ E = .returned (.tuple #[.pointer none, .int .i64 (ropE st l)]) ∧ DStep q F w w' (ropD st l)) ∨ (ropE st l = 0 ∧ ∃ p F', E = .returned (.tuple #[.pointer (some ⟨p, 0, none⟩), .int .i64 0]) ∧ XW p q F' w' ⟨ropD st l, l, false⟩ ∧ Out F w w' ∧ ∀ g, F' g → F g ∨ w.heap.size ≤ g)) := by
 have HH := hide (holdsR_any q F w st 2 h (by decide) (Nat.le_trans (hs.1.1 2) (by decide)) (Nat.le_trans hs.1.2.1 (by decide)))
 rw [show Dm.hold 2 (st.sure 2) st.wait = Rl.hld st from rfl] at HH
 have HK := hide h
 have HS := hide hs
 have hlen := rhld_len hs
 obtain ⟨ds, dwv, drs, hd⟩ := h
 have d0 := hd.c0
 have d6 := hd.c6
 clear hd
 cases hon : st.on with
 | false =>
  obtain ⟨l, hl⟩ := Rl.lg_is 0 (Rl.hld st)
  have e1 : ropE st l = 6 := by unfold ropE; rw [if_pos hon]
  have e2 : ropD st l = st := by unfold ropD; rw [if_pos hon]
  have E1 := hide e1
  have E2 := hide e2
  have HL := hide hl
  rw [hon] at d6
  clear hs hon e1 e2 hl HH
  go_enter Tryz.func9, Tryz.ntmps9
  go_wp2
  go_ret2
  exact ⟨l, HL, .inl ⟨by rw [E1.out]; decide, by rw [E1.out]; rfl, by rw [E2.out]; exact DStep.same HK.out (Below.refl _ _)⟩⟩
 | true =>
  rw [hon] at d6
  have HO := hide hon
  clear hs hon
  go_enter Tryz.func9, Tryz.ntmps9
  go_wp2_with fail
  refine HH.out.mono ?_
  rintro E w1 ⟨v, rfl, own, bel⟩
  have HW := hide (xscan_any v (Rl.hld st) w1 own.is (by omega))
  obtain ⟨a, c, hv, _, _⟩ := own.is.shape
  have B1 := hide bel
  subst hv
  have sz1 := bel.size
  clear own HH bel
  go_wp2_with fail
  refine HW.out.mono ?_
  rintro E w2 ⟨l, vc, rs, rfl, Q2, b2, LG⟩
  have B2 := hide (B1.out.trans (b2.mono B1.out.size))
  have sz2 := b2.size
  have e1 : ropE st l = (Rl.trm st (Rl.lgb l).length).1 := by unfold ropE; rw [if_neg (by rw [HO.out]; decide)]
  have e2 : ropD st l = (Rl.trm st (Rl.lgb l).length).2 := by unfold ropD; rw [if_neg (by rw [HO.out]; decide)]
  have HT := hide (trimR_two q F w2 st (Rl.lgb l).length (HK.out.below B2.out) HS.out)
  rw [← e1, ← e2] at HT
  have e01 : ropE st l = 0 ∨ ropE st l = 6 := by rw [e1]; exact rtrm_e st _
  obtain ⟨xa, xn, xk, hvc⟩ : ∃ a n k, vc = .slice a n k := by
   obtain ⟨a1, k1, h1, _⟩ := Q2.row.row.shape
   exact ⟨a1, _, k1, h1⟩
  subst hvc
  have Q2h := hide Q2
  have LT2 := hide HK.out.lt
  clear HW Q2 b2 e1 e2
  go_wp2_with fail
  refine HT.out.mono ?_
  rintro E w3 ⟨rfl, F3, K3, o3, s3⟩
  have D0 : Hid (DStep q F w w3 (ropD st l)) := hide (DStep.pre B2.out ⟨F3, K3, o3, s3⟩)
  have q3 : Rq w1.heap.size w3 l (.slice xa xn xk) rs := Q2h.out.out o3 fun g hg hf => by have h1 := Q2h.out.ge g hg; have h2 := LT2.out g hf; omega
  obtain ⟨W, hW, szW, belW, bW⟩ := blk_step w3 #[.bool true, .pointer (some ⟨q, 0, none⟩), .slice xa xn xk, .bool false] 85
  have sz3 := o3.size
  have FIN : Hid (∃ F', XW w3.heap.size q F' W ⟨ropD st l, l, false⟩ ∧ Out F w W ∧ ∀ g, F' g → F g ∨ w.heap.size ≤ g) := hide (by
   have hz := B2.out.size
   have oo : Out F w w3 := (Out.of_below (F := F) B2.out).trans o3 fun g hg => .inl hg
   refine ⟨_, ⟨F3, _, rs, K3.below belW, ⟨bW, (q3.below belW).rebase (Nat.zero_le _)⟩, fun g hg hf => ?_, rfl⟩, oo.trans (Out.of_below (F := F) belW) fun g hg => .inl hg, ?_⟩
   ·have h4 := K3.lt g hf
    rcases hg with e | e
    ·omega
    ·rcases s3 g hf with e2 | e2
     ·have h1 := Q2h.out.ge g e
      have h2 := LT2.out g e2
      omega
     ·have h1 := Q2h.out.lt g e
      omega
   ·rintro g (e | e | e)
    ·rcases s3 g e with e | e
     ·exact .inl e
     ·exact .inr (by omega)
    ·exact .inr (by omega)
    ·exact .inr (by have := q3.ge g e; omega))
  have LGH := LG
  clear K3 o3 s3 q3 belW bW HT Q2h
  rcases e01 with e0 | e0
  ·have E0 := hide e0
   rw [e0]
   clear e0
   go_wp2
   go_ret2
   obtain ⟨F', k1, k2, k3⟩ := FIN.out
   exact ⟨l, LGH, .inr ⟨E0.out, _, F', rfl, k1, k2, k3⟩⟩
  ·have E0 := hide e0
   rw [e0]
   clear e0
   go_wp2
   go_ret2
   exact ⟨l, LGH, .inl ⟨by rw [E0.out]; decide, by rw [E0.out]; rfl, D0.out⟩⟩

theorem xr_push {x y : Nat} {F1 : Nat → Prop} {w wc : World} {d : Dm.Ds} {l : List Cm.Cv} {bk : Bool} {v : Value} {rs : List Cw} {c : Cw} (h1 : Dk y F1 w d) (hv : XrV x y w l bk v rs) (h3 : ∀ g, XRB x v rs g → ¬ F1 g) (hb : Below w.heap.size w wc) (hc : OwnO 65 w.heap.size wc c.v c.l) (hg : Rl.Good 0 (l ++ [c.c])) (ty : TypeId) :
  ∃ V, wc.alloc (.cells #[.int .i64 c.e, .int .i64 c.n, c.v] 112) = V ∧ V.cell? ⟨x, 2, none⟩ = some v ∧ ∃ v2 w2, (Builtin.append_ #[76, 76] ty #[v, .slice (some ⟨wc.heap.size, 0, none⟩) 1 1]).run Tryz.prog V = .ok v2 w2 ∧ w2.cell? ⟨x, 2, none⟩ = some v ∧ w2.frozen? ⟨x, 2, none⟩ = false ∧ (∃ a n k, v2 = .slice a n k) ∧
   XwS x y (fun g => F1 g ∨ XRB x v rs g) w (w2.setCell ⟨x, 2, none⟩ v2) ⟨d, l ++ [c.c], bk⟩ := by
 have hsz := hb.size
 obtain ⟨V, hV, szV, belV, ownV⟩ := coms_step 112 wc #[.int .i64 c.e, .int .i64 c.n, c.v] 1 [c] rfl rfl (by simp [maxLen])
 have bwV := hb.trans (belV.mono hsz)
 have qV := hv.log.below bwV
 have BV := (bwV.block x (blk_lt hv.blk)).trans hv.blk
 have hone : ∀ d ∈ [c], d.v.oneCell' = true := fun d hd => by rw [List.mem_singleton.1 hd]; exact hc.is.one
 obtain ⟨v2, w2, hr, own2, gr2, at2⟩ := run_append_coms_at (P := Tryz.prog) (w := V) 76 ty 112 0 Tryz.underlying76 Tryz.info112 v rs qV.row _ [c] ownV.row hone (by have := hv.log.len_le; simp; omega) (Nat.zero_le _)
 have kp : KeepT 112 V w2 := KeepT.of_row qV.row gr2
 have q2 := qV.grow own2 kp ((hc.below belV).rebase (Nat.zero_le _)) hg
 have hpn : ¬ v.ownBlock = some x := fun e => qV.ne BV (by decide) (by decide) (.inl e)
 have B2 := (gr2.block x (blk_lt BV) (fun e => hpn e.symm)).trans BV
 obtain ⟨X, hX, bX, gX, fX⟩ := put_at3 B2 2 v2
 have qX : Rq 0 X (l ++ [c.c]) v2 (rs ++ [c]) := q2.agree fun g hg => gX.block g (q2.lt g hg) fun e => by
  simp at e
  exact q2.ne B2 (by decide) (by decide) (e ▸ hg)
 have o : Out (XRB x v rs) w X := ((Out.of_below (F := XRB x v rs) bwV).trans (Out.of_grown (F := XRB x v rs) gr2 fun g hg => .inr (.inl hg)) fun g hg => .inl hg).trans (Out.of_grown (F := XRB x v rs) gX fun g hg => .inl (by simpa using hg.symm)) fun g hg => .inl hg
 have hnew : ∀ g, XRB x v2 (rs ++ [c]) g → XRB x v rs g ∨ w.heap.size ≤ g := by
  rintro g (e | e | ⟨d, hd, e⟩)
  ·exact .inl (.inl e)
  ·rcases at2 with h | h
   ·exact .inl (.inr (.inl (h ▸ e)))
   ·rw [h] at e
    simp at e
    exact .inr (by omega)
  ·rcases List.mem_append.1 hd with hd | hd
   ·exact .inl (.inr (.inr ⟨d, hd, e⟩))
   ·rw [List.mem_singleton.1 hd] at e
    exact .inr (hc.block g e).1
 refine ⟨V, hV, blk_cell BV 2 rfl, v2, w2, hr, blk_cell B2 2 rfl, fX, ?_, ?_⟩
 ·obtain ⟨a1, k1, h1, _⟩ := own2.row.shape
  exact ⟨a1, _, k1, h1⟩
 ·rw [hX]
  refine ⟨_, ⟨F1, v2, rs ++ [c], h1.out o fun g hg e => h3 g e hg, ⟨bX, qX⟩, fun g hg hf => ?_, rfl⟩, o.mono fun g hg => .inl (.inr hg), ?_⟩
  ·rcases hnew g hg with e | e
   ·exact h3 g e hf
   ·have := h1.lt g hf
    omega
  ·rintro g (e | e)
   ·exact .inl (.inl e)
   ·exact (hnew g e).imp (fun e => .inr e) id

end Go.Proofs.YtmmfakpphjjjfaaGreat
