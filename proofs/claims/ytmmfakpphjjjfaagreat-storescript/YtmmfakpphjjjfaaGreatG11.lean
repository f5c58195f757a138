/- Texts of one layer, one behind the other. -/
import Derived.Test.YtmmfakpphjjjfaaGreatG8
import Derived.Test.YtmmfakpphjjjfaaGreatG10
import Derived.Test.YtmmfakpphjjjfaaGreatG6
import Derived.Test.YtmmfakpphjjjfaaGreatG2
import Derived.Test.YtmmfakpphjjjfaaGreatG4
import Derived.Lib.SliceRun
import Derived.Test.YtmmfakpphjjjfaaGreatG5
import Derived.Lib.AppendZeros
/- Runs in memory: the program's object, its list and its disk. -/
namespace Go.Proofs.YtmmfakpphjjjfaaGreat
open Go.RowKit
set_option linter.unusedVariables false

theorem good_get {rs : List Cw} {l : List Cm.Cv} (h : Rl.Good 0 l) (he : cvs rs = l) : ∀ c ∈ rs, Rn.chk c.e c.n c.l = 0 := fun c hc => by
 refine Rl.good_all h c.c ?_
 rw [← he]
 exact List.mem_map.2 ⟨c, hc, rfl⟩

theorem fit_run {f u : Int} {l : List Bm.Ov} (h : Rn.chk f u l = 0) : FitO l ∧ l.length * 40 ≤ 140737488351232 ∧ In64 f ∧ In64 u ∧ l.length ≤ 1024 := by
 obtain ⟨h1, h2, h3, h4, h5⟩ := Rn.chk_zero h
 refine ⟨fun o ho => ?_, by omega, ⟨by omega, by omega⟩, ⟨by omega, by omega⟩, h1⟩
 obtain ⟨_, k2, k3, _⟩ := Om.chk_ok' (Rn.may_c h5 o ho)
 have e1 : o.k.size = o.k.data.toList.length := rfl
 have e2 : o.v.size = o.v.data.toList.length := rfl
 have e3 : o.kl = o.k.data.toList := rfl
 have e4 : o.vl = o.v.data.toList := rfl
 rw [e3] at k2
 rw [e4] at k3
 omega

structure Rq (base : Nat) (w : World) (l : List Cm.Cv) (v : Value) (rs : List Cw) : Prop where
 row : OwnR 112 base w v rs
 cop : CopyR base w rs
 is : cvs rs = l
 good : Rl.Good 0 l

def QB (v : Value) (rs : List Cw) (g : Nat) : Prop := v.ownBlock = some g ∨ ∃ c ∈ rs, c.v.ownBlock = some g

section
variable {base base' : Nat} {w w' : World} {l : List Cm.Cv} {v : Value} {rs : List Cw} {F G : Nat → Prop}

theorem Rq.nil (base : Nat) (w : World) : Rq base w [] (.slice none 0 0) [] := ⟨OwnR.nil _ _ _, fun c hc => by simp at hc, rfl, trivial⟩

theorem Rq.ty (h : Rq base w l v rs) : ∀ g, QB v rs g → ∃ cs t, w.heap[g]? = some (.cells cs t (0, 0)) ∧ (t = 112 ∨ t = 65) := by
 rintro g (hb | ⟨c, hc, hb⟩)
 ·obtain ⟨cs, e⟩ := h.row.type hb
  exact ⟨_, _, e, .inl rfl⟩
 ·obtain ⟨cs, e⟩ := (h.cop c hc).type hb
  exact ⟨_, _, e, .inr rfl⟩

theorem Rq.lt (h : Rq base w l v rs) : ∀ g, QB v rs g → g < w.heap.size := fun g hg => by
 obtain ⟨cs, t, e, _⟩ := h.ty g hg
 exact blk_lt e

theorem Rq.ge (h : Rq base w l v rs) : ∀ g, QB v rs g → base ≤ g := by
 rintro g (hb | ⟨c, hc, hb⟩)
 ·exact (World.ownsRow.lt h.row g hb).1
 ·exact ((h.cop c hc).block g hb).1

theorem Rq.agree (h : Rq base w l v rs) (ha : ∀ g, QB v rs g → w'.heap[g]? = w.heap[g]?) : Rq base w' l v rs :=
 ⟨row_agree h.row fun b hb => ha b (.inl hb), fun c hc => row_agree (h.cop c hc) fun b hb => ha b (.inr ⟨c, hc, hb⟩), h.is, h.good⟩

theorem Rq.below (h : Rq base w l v rs) (hb : Below w.heap.size w w') : Rq base w' l v rs := h.agree fun g hg => hb.block g (h.lt g hg)

theorem Rq.rebase (h : Rq base w l v rs) (hb : base' ≤ base) : Rq base' w l v rs := ⟨row_rebase h.row hb, fun c hc => (h.cop c hc).rebase hb, h.is, h.good⟩

theorem Rq.ne (h : Rq base w l v rs) {b : Nat} {cs : Array Value} {t : TypeId} {fr : Nat × Nat} (hb : w.heap[b]? = some (.cells cs t fr)) (h1 : t ≠ 112) (h3 : t ≠ 65) : ¬ QB v rs b := by
 intro hg
 obtain ⟨cs', t', e, ht⟩ := h.ty b hg
 rw [hb] at e
 simp only [Option.some.injEq, Obj.cells.injEq] at e
 obtain ⟨_, e2, _⟩ := e
 subst e2
 rcases ht with e | e
 ·exact h1 e
 ·exact h3 e

theorem Rq.len (h : Rq base w l v rs) : rs.length = l.length := by rw [← h.is, cvs, List.length_map]

theorem Rq.len_le (h : Rq base w l v rs) : rs.length ≤ 1048576 := by rw [h.len]; exact (Rl.good_len h.good).1

theorem Rq.isc (h : Rq base w l v rs) : IsC w v rs := ⟨h.row.row, fun c hc => ⟨(h.cop c hc).is, (fit_run (good_get h.good h.is c hc)).2.2.1, (fit_run (good_get h.good h.is c hc)).2.2.2.1⟩⟩

theorem Rq.at (h : Rq base w l v rs) {k : Nat} {c : Cw} (hc : rs[k]? = some c) : l[k]? = some c.c := by rw [← h.is, cvs, List.getElem?_map, hc]; rfl

structure RkV (p q : Nat) (w : World) (l : List Cm.Cv) (bk : Bool) (v : Value) (rs : List Cw) : Prop where
 blk : w.heap[p]? = some (.cells #[.pointer (some ⟨q, 0, none⟩), .bool bk, v] 81 (0, 0))
 log : Rq 0 w l v rs

def Rk (p q : Nat) (G : Nat → Prop) (w : World) (l : List Cm.Cv) (bk : Bool) : Prop := ∃ v rs, RkV p q w l bk v rs ∧ G = fun g => g = p ∨ QB v rs g

theorem RkV.ty {p q : Nat} {bk : Bool} (h : RkV p q w l bk v rs) : ∀ g, g = p ∨ QB v rs g → ∃ cs t, w.heap[g]? = some (.cells cs t (0, 0)) ∧ (t = 81 ∨ t = 112 ∨ t = 65) := by
 rintro g (rfl | hg)
 ·exact ⟨_, _, h.blk, .inl rfl⟩
 ·obtain ⟨cs, t, e, ht⟩ := h.log.ty g hg
  exact ⟨cs, t, e, .inr ht⟩

theorem Rk.ty {p q : Nat} {bk : Bool} (h : Rk p q G w l bk) : ∀ g, G g → ∃ cs t, w.heap[g]? = some (.cells cs t (0, 0)) ∧ (t = 81 ∨ t = 112 ∨ t = 65) := by
 obtain ⟨v, rs, h, rfl⟩ := h
 exact h.ty

theorem Rk.lt {p q : Nat} {bk : Bool} (h : Rk p q G w l bk) : ∀ g, G g → g < w.heap.size := fun g hg => by
 obtain ⟨cs, t, e, _⟩ := h.ty g hg
 exact blk_lt e

theorem Rk.agree {p q : Nat} {bk : Bool} (h : Rk p q G w l bk) (ha : ∀ g, G g → w'.heap[g]? = w.heap[g]?) : Rk p q G w' l bk := by
 obtain ⟨v, rs, h, rfl⟩ := h
 exact ⟨v, rs, ⟨(ha p (.inl rfl)).trans h.blk, h.log.agree fun g hg => ha g (.inr hg)⟩, rfl⟩

theorem Rk.out {p q : Nat} {bk : Bool} (h : Rk p q G w l bk) (ho : Out F w w') (hd : ∀ g, G g → ¬ F g) : Rk p q G w' l bk := h.agree fun g hg => ho.block g (h.lt g hg) (hd g hg)
theorem Rk.good {p q : Nat} {bk : Bool} (h : Rk p q G w l bk) : Rl.Good 0 l := by
 obtain ⟨v, rs, h, rfl⟩ := h
 exact h.log.good

theorem rk_pk {p q q' : Nat} {bk : Bool} {st : Dm.Ds} (h : Rk p q G w l bk) (k : Pk q' F w st) : ∀ g, G g → ¬ F g := by
 intro g hg hf
 obtain ⟨cs, t, e, ht⟩ := h.ty g hg
 obtain ⟨cs', t', fr, e', ht'⟩ := k.ty g hf
 rw [e] at e'
 simp only [Option.some.injEq, Obj.cells.injEq] at e'
 obtain ⟨_, e2, _⟩ := e'
 subst e2
 rcases ht with rfl | rfl | rfl <;> rcases ht' with e | e | e <;> exact absurd e (by decide)

end

def RW (p q : Nat) (F : Nat → Prop) (w : World) (s : Rl.Rs) : Prop := ∃ F1 G1, Pk q F1 w s.d ∧ Rk p q G1 w s.l s.bk ∧ F = fun g => F1 g ∨ G1 g

def RStep (p q : Nat) (F : Nat → Prop) (w w' : World) (s' : Rl.Rs) : Prop := ∃ F', RW p q F' w' s' ∧ Out F w w' ∧ ∀ g, F' g → F g ∨ w.heap.size ≤ g

section
variable {p q : Nat} {F G : Nat → Prop} {w w' w1 w2 : World} {s s' : Rl.Rs} {st' : Dm.Ds}

theorem RW.lt (h : RW p q F w s) : ∀ g, F g → g < w.heap.size := by
 obtain ⟨F1, G1, h1, h2, rfl⟩ := h
 rintro g (hg | hg)
 ·exact h1.lt g hg
 ·exact h2.lt g hg

theorem RW.agree (h : RW p q F w s) (ha : ∀ g, F g → w'.heap[g]? = w.heap[g]?) : RW p q F w' s := by
 obtain ⟨F1, G1, h1, h2, rfl⟩ := h
 exact ⟨F1, G1, h1.agree fun g hg => ha g (.inl hg), h2.agree fun g hg => ha g (.inr hg), rfl⟩
theorem RW.below (h : RW p q F w s) (hb : Below w.heap.size w w') : RW p q F w' s := h.agree fun g hg => hb.block g (h.lt g hg)
theorem RW.out (h : RW p q F w s) (ho : Out G w w') (hd : ∀ g, F g → ¬ G g) : RW p q F w' s := h.agree fun g hg => ho.block g (h.lt g hg) (hd g hg)
theorem RW.good (h : RW p q F w s) : Rl.Good 0 s.l := by
 obtain ⟨F1, G1, h1, h2, rfl⟩ := h
 exact h2.good

theorem RStep.trans {F1 : Nat → Prop} (ho : Out F w w1) (hs : ∀ g, F1 g → F g ∨ w.heap.size ≤ g) (k : RStep p q F1 w1 w2 s') : RStep p q F w w2 s' := by
 obtain ⟨F2, h1, h2, h3⟩ := k
 refine ⟨F2, h1, ho.trans h2 hs, fun g hg => ?_⟩
 rcases h3 g hg with h | h
 ·exact hs g h
 ·exact .inr (Nat.le_trans ho.size h)
theorem RStep.pre (hb : Below w.heap.size w w1) (h : RStep p q F w1 w2 s') : RStep p q F w w2 s' := h.trans (Out.of_below hb) fun g hg => .inl hg

theorem RW.disk {F1 G1 : Nat → Prop} {l : List Cm.Cv} {bk : Bool} (h1 : Pk q F1 w s.d) (h2 : Rk p q G1 w l bk) (k : PStep q F1 w w' st') :
  ∃ F2, Pk q F2 w' st' ∧ Rk p q G1 w' l bk ∧ Out F1 w w' ∧ ∀ g, F2 g → F1 g ∨ w.heap.size ≤ g := by
 obtain ⟨F2, k1, k2, k3⟩ := k
 exact ⟨F2, k1, h2.out k2 (rk_pk h2 h1), k2, k3⟩

end

end Go.Proofs.YtmmfakpphjjjfaaGreat

/- The contracts of run.Encode. -/
namespace Go.Proofs.YtmmfakpphjjjfaaGreat
open Go.RowKit
open Bm (Ov)
set_option linter.unusedVariables false

theorem Tryz.nx0 (a b c : Int) (w : World) : (Instr.index 179 (.agg #[.int .i64 a, .int .i64 b, .int .i64 c]) (.int .i64 0)).run Tryz.prog w = .ok (.int .i64 a) w := by kernel_rfl

theorem Tryz.nx1 (a b c : Int) (w : World) : (Instr.index 179 (.agg #[.int .i64 a, .int .i64 b, .int .i64 c]) (.int .i64 1)).run Tryz.prog w = .ok (.int .i64 b) w := by kernel_rfl

theorem Tryz.nx2 (a b c : Int) (w : World) : (Instr.index 179 (.agg #[.int .i64 a, .int .i64 b, .int .i64 c]) (.int .i64 2)).run Tryz.prog w = .ok (.int .i64 c) w := by kernel_rfl

theorem wrap_u64n (z : Int) (h0 : 0 ≤ z) (h1 : z < 9223372036854775808) : IntKind.u64.wrap z = z := by
 simp [IntKind.wrap, IntKind.bits, IntKind.signed]
 omega

def nmb (f u : Int) (m k : Nat) : List Int := match k with
 | 0 => []
 | 1 => Vm.enc f.toNat
 | 2 => Vm.enc f.toNat ++ Vm.enc u.toNat
 | _ => Vm.enc f.toNat ++ Vm.enc u.toNat ++ Vm.enc m

theorem nmb_len {f u : Int} {m : Nat} (hf : f ≤ 1048576) (hu : u ≤ 1048576) (hm : m ≤ 1024) (k : Nat) : (nmb f u m k).length ≤ 9 := by
 have a := Cm.enc_small hf
 have b := Cm.enc_small hu
 have c : (Vm.enc m).length ≤ 3 := Vm.sz_le 2 m (by omega)
 unfold nmb
 split
 ·simp
 ·omega
 ·rw [List.length_append]; omega
 ·rw [List.length_append, List.length_append]; omega

theorem nmb_all (f u : Int) (l : List Ov) : nmb f u l.length 3 ++ Rn.ens l = Rn.encR f u l := by simp [nmb, Rn.encR]

theorem ens_next {l : List Ov} {k : Nat} {o : Ov} (h : l[k]? = some o) : Rn.ens (l.take (k + 1)) = Rn.ens (l.take k) ++ Om.opEnc o.p o.kl o.vl := by
 obtain ⟨h1, rfl⟩ := List.getElem?_eq_some_iff.1 h
 rw [List.take_succ_eq_append_getElem h1, Rn.ens_snoc]

set_option maxRecDepth 20000 in
set_option maxHeartbeats 2000000 in
theorem henc_any (e n : Int) (v : Value) (l : List Ov) (w : World) (h : IsO w v l) (hf : FitO l) (hl : l.length ≤ 140737488355328) :
  Calls Tryz.prog 153 #[cmv e n v] w fun E w' => ∃ vb, E = .returned (.tuple #[vb, .int .i64 (Rn.chk e n l)]) ∧ Own .u8 5 w.heap.size w' vb (Rn.out e n l) ∧ Below w.heap.size w w' := by
 obtain ⟨w1, hw1, sz1, bel1, hB⟩ := blk_step w #[.int .i64 e, .int .i64 n, v] 112
 have c0 := blk_cell hB 0 rfl
 have c1 := blk_cell hB 1 rfl
 have c2 := blk_cell hB 2 rfl
 have HM := hide (hcheck_any e n v l w1 (h.below bel1) hf hl)
 have HFULL := hide fun (h0 : 0 < l.length) => h.full h0
 unfold cmv at HM ⊢
 obtain ⟨ao, cap, rfl, _, _⟩ := h.shape
 obtain ⟨ch, hch⟩ : ∃ x, Rn.chk e n l = x := ⟨_, rfl⟩
 rw [hch] at HM ⊢
 have HA := hide hch
 have HF := hide hf
 obtain ⟨m, hmm⟩ : ∃ m, l.length = m := ⟨_, rfl⟩
 rw [hmm] at HFULL hl c2 hw1 HM ⊢
 have HN := hide hmm
 clear h hf hch hB hmm
 go_enter Tryz.func153, Tryz.ntmps153
 go_wp2_with fail
 refine HM.out.mono ?_
 rintro E w2 ⟨rfl, bel2⟩
 have sz2 := bel2.size
 have bel02 := bel1.trans (bel2.mono bel1.size)
 have d0 := (bel2.cell (p := ⟨w.heap.size, 0, none⟩) (show w.heap.size < w1.heap.size by omega)).trans c0
 have d1 := (bel2.cell (p := ⟨w.heap.size, 1, none⟩) (show w.heap.size < w1.heap.size by omega)).trans c1
 have d2 := (bel2.cell (p := ⟨w.heap.size, 2, none⟩) (show w.heap.size < w1.heap.size by omega)).trans c2
 clear c0 c1 c2 HM bel2
 by_cases h0 : ch = 0
 ·subst h0
  have HZ := hide (Rn.chk_zero HA.out)
  obtain ⟨g1, g2, g3, g4, _⟩ := HZ.out
  rw [HN.out] at g1
  have hml : (m : Int) ≤ 1024 := by omega
  have HNM := hide (fun k => nmb_len (f := e) (u := n) (m := m) (by omega) g4 g1 k)
  go_wp2
  go_loopw [5, 25] (fun bb kk wr => ∃ k : Nat, k ≤ 3 ∧ kk = .int .i64 k ∧ Own .u8 5 w.heap.size wr bb (nmb e n m k) ∧ Below w2.heap.size w2 wr) (fun _ kk _ => 4 - (intOf kk).toNat)
  case atStart => exact ⟨0, by omega, rfl, Own.nil _ _ _ _, Below.refl _ _⟩
  case round =>
   obtain ⟨k, hk, rfl, own, belr⟩ := hrel
   have szr := belr.size
   have hln := HNM.out k
   rcases (show k = 0 ∨ k = 1 ∨ k = 2 ∨ k = 3 by omega) with rfl | rfl | rfl | rfl
   ·have hix := Tryz.nx0 e n m
    have hwr := wrap_u64n e (by omega) (by omega)
    go_wp2_with fail
    refine (app_any _ _ e _ own.is (by omega) (by omega) (by omega)).mono ?_
    rintro E w4 ⟨v4, rfl, own4, bel4⟩
    have own5 : Own .u8 5 w.heap.size w4 v4 (nmb e n m 1) := by simpa [nmb] using own4.rebase (base' := w.heap.size) (by omega)
    have bel5 := belr.trans (bel4.mono (by omega))
    clear own own4 bel4
    go_wp2
    go_roundw
    case rel => exact ⟨1, by omega, rfl, own5, bel5⟩
    case measure => simp [intOf]
   ·have hix := Tryz.nx1 e n m
    have hwr := wrap_u64n n (by omega) (by omega)
    go_wp2_with fail
    refine (app_any _ _ n _ own.is (by omega) (by omega) (by omega)).mono ?_
    rintro E w4 ⟨v4, rfl, own4, bel4⟩
    have own5 : Own .u8 5 w.heap.size w4 v4 (nmb e n m 2) := own4.rebase (base' := w.heap.size) (by omega)
    have bel5 := belr.trans (bel4.mono (by omega))
    clear own own4 bel4
    go_wp2
    go_roundw
    case rel => exact ⟨2, by omega, rfl, own5, bel5⟩
    case measure => simp [intOf]
   ·have hix := Tryz.nx2 e n m
    have hwr := wrap_u64n m (by omega) (by omega)
    go_wp2_with fail
    refine (app_any _ _ m _ own.is (by omega) (by omega) (by omega)).mono ?_
    rintro E w4 ⟨v4, rfl, own4, bel4⟩
    have own5 : Own .u8 5 w.heap.size w4 v4 (nmb e n m 3) := by simpa [nmb] using own4.rebase (base' := w.heap.size) (by omega)
    have bel5 := belr.trans (bel4.mono (by omega))
    clear own own4 bel4
    go_wp2
    go_roundw
    case rel => exact ⟨3, by omega, rfl, own5, bel5⟩
    case measure => simp [intOf]
   ·have x2 := (belr.cell (p := ⟨w.heap.size, 2, none⟩) (show w.heap.size < w2.heap.size by omega)).trans d2
    have belq := bel02.trans (belr.mono bel02.size)
    have hln3 := hln
    clear d0 d1 d2 belr bel02 hln
    go_wp2
    go_loopw [5, 36] (fun bb kk ws => ∃ k : Nat, k ≤ m ∧ kk = .int .i64 k ∧ Own .u8 5 w.heap.size ws bb (nmb e n m 3 ++ Rn.ens (l.take k)) ∧ Below w.heap.size w ws) (fun _ kk _ => m - (intOf kk).toNat)
    case atStart => exact ⟨0, by omega, rfl, by simpa [Rn.ens] using own, belq⟩
    case round =>
     obtain ⟨k, hk, rfl, ownk, bel⟩ := hrel
     have sz := bel.size
     by_cases hlt : k < m
     ·obtain ⟨o, ho⟩ : ∃ o, l[k]? = some o := ⟨l[k]'(by have := HN.out; omega), by rw [List.getElem?_eq_getElem]⟩
      obtain ⟨b1, o1, cq, hvx, _, _, hB, hcell⟩ := HFULL.out (by omega)
      simp only [Value.slice.injEq, true_and] at hvx
      obtain ⟨rfl, rfl⟩ := hvx
      obtain ⟨c0, c1, c2⟩ := hcell k o ho
      have d0 := (bel.cell (p := ⟨b1, o1 + k * 3, none⟩) hB).trans c0
      have d1 := (bel.cell (p := ⟨b1, o1 + k * 3 + 1, none⟩) hB).trans c1
      have d2 := (bel.cell (p := ⟨b1, o1 + k * 3 + 2, none⟩) hB).trans c2
      have HO := hide ho
      clear c0 c1 c2 ho hcell
      have hlt' : (k : Int) < m := by omega
      obtain ⟨hk1, hv1⟩ := HF.out o (List.mem_of_getElem? HO.out)
      obtain ⟨W1, hW1, szw, bW1, B1⟩ := blk_step wr #[.bool o.p, .string o.k, .string o.v] 65
      have e0 := blk_cell B1 0 rfl
      have e1 := blk_cell B1 1 rfl
      have e2 := blk_cell B1 2 rfl
      have b01 : Below w.heap.size w W1 := bel.trans (bW1.mono sz)
      have own1 := ownk.below bW1
      have hoc : o.c = 0 := Rn.may_c HZ.out.2.2.2.2 o (List.mem_of_getElem? HO.out)
      clear B1 bW1 bel ownk
      go_wp2_with fail
      refine (oapp_any (.slice none 0 0) [] o.p o.k o.v _ (Is.nil _ _) (by simp) hk1 hv1).mono ?_
      rintro E w5 ⟨v5, rfl, own5, bel5⟩
      have hok : Om.chk o.p o.k.data.toList o.v.data.toList = 0 := hoc
      rw [Om.appd_ok hok, List.nil_append] at own5
      rw [hok]
      have own6 := own1.below bel5
      have b05 : Below w.heap.size w w5 := b01.trans (bel5.mono b01.size)
      have hz5 := b05.size
      have hle1 : (Om.opEnc o.p o.k.data.toList o.v.data.toList).length ≤ 51 := Om.opEnc_le hok
      have hle2 : (Rn.ens (l.take k)).length ≤ 51 * 1024 := by
       have := Rn.ens_le (l := l.take k) fun q hq => Rn.may_c HZ.out.2.2.2.2 q (List.mem_of_mem_take hq)
       rw [List.length_take] at this
       omega
      have is5 := own5.is
      have hlen : ((nmb e n m 3 ++ Rn.ens (l.take k)).length + (Om.opEnc o.p o.k.data.toList o.v.data.toList).length) * 1 ≤ 150000000000000 := by
       rw [List.length_append]
       omega
      clear own1 own5 bel5 b01 e0 e1 e2 d0 d1 d2 hok hoc
      go_wp2_with (at_builtin; refine wpList_append_is rfl (.tmp 45) (.tmp 46) 66 rfl .u8 5 w.heap.size 1 Tryz.underlying66 Tryz.info5 (by decide) _ _ rfl own6 _ _ rfl is5 hlen hz5 ?_)
      rintro v7 w7 own7 bel7 _
      have own8 : Own .u8 5 w.heap.size w7 v7 (nmb e n m 3 ++ Rn.ens (l.take (k + 1))) := by
       rw [ens_next HO.out]
       exact own7
      have bel8 := b05.trans bel7
      clear own6 own7 is5 bel7 b05
      go_wp2
      go_roundw
      case rel => exact ⟨v7, _, _, _, .int .i64 ((k : Int) + 1), _, _, _, _, _, _, _, _, _, _, _, _, ⟨k + 1, by omega, by go_num, own8, bel8⟩, rfl⟩
      case measure => simp [intOf]; omega
     ·have hlt' : ¬ (k : Int) < m := by omega
      have OW : Hid (Own .u8 5 w.heap.size wr u5 (Rn.out e n l)) := hide (by
       rw [Rn.out_ok HA.out, ← nmb_all, HN.out]
       rw [List.take_of_length_le (by have := HN.out; omega)] at ownk
       exact ownk)
      clear ownk
      go_wp2
      go_ret2
      exact ⟨_, rfl, OW.out, bel⟩
 ·have hne : (ch != 0) = true := by simp [h0]
  have HO : Hid (Rn.out e n l = []) := hide (Rn.out_no (by rw [HA.out]; exact h0))
  go_wp2
  go_ret2
  exact ⟨_, rfl, by rw [HO.out]; exact Own.nil _ _ _ _, bel02⟩

end Go.Proofs.YtmmfakpphjjjfaaGreat

/- Rows of lists of bytes in memory. No program but its types. -/
namespace Go.Proofs.YtmmfakpphjjjfaaGreat
open Go.RowKit
set_option linter.unusedVariables false

structure Bw where
 v : Value
 l : List Int

def bwc (a : Bw) : List Value := [a.v]
theorem bwc_len (a : Bw) : (bwc a).length = 1 := rfl

def IsBB (w : World) (v : Value) (r : List Bw) : Prop := RowG bwc w v r ∧ ∀ a ∈ r, Is .u8 w a.v a.l

theorem IsBB.below {w w' : World} {v : Value} {r : List Bw} (h : IsBB w v r) (hb : Below w.heap.size w w') : IsBB w' v r := ⟨h.1.below hb, fun a ha => (h.2 a ha).below hb⟩

theorem IsBB.full {w : World} {v : Value} {r : List Bw} (h : IsBB w v r) (hne : 0 < r.length) :
  ∃ b off cap, v = .slice (some ⟨b, off, none⟩) r.length cap ∧ r.length ≤ cap ∧ cap ≤ maxLen ∧ b < w.heap.size ∧ ∀ i a, r[i]? = some a → w.cell? ⟨b, off + i, none⟩ = some a.v := by
 obtain ⟨b, off, cap, h1, h2, h3, h4, h5⟩ := h.1.full bwc_len (by decide) hne
 refine ⟨b, off, cap, h1, h2, h3, h4, fun i a ha => ?_⟩
 have := h5 i a ha 0 a.v rfl
 simpa using this

structure OwnB (base : Nat) (w : World) (v : Value) (r : List Bw) : Prop where
 row : OwnG bwc 1 66 base w v r
 own : ∀ a ∈ r, Own .u8 5 base w a.v a.l
 apart : r.Pairwise (fun a b => ∀ g, a.v.ownBlock = some g → b.v.ownBlock ≠ some g)

theorem Tryz.eqnil (w : World) (a : Option Addr) (n c : Nat) : (binOp .eql 66 (.slice a n c) (.slice none 0 0)).run Tryz.prog w = .ok (.bool a.isNone) w := Lib.run_eql_slice_nil w 66 5 a n c 0 0 Tryz.underlying66

set_option maxHeartbeats 1000000 in
theorem bclone_any (v : Value) (bs : List Int) (w : World) (h : Is .u8 w v bs) (hl : bs.length ≤ 140737488355328) :
  Calls Tryz.prog 107 #[v] w fun E w' => ∃ v', E = .returned v' ∧ Own .u8 5 w.heap.size w' v' bs ∧ Below w.heap.size w w' := by
 rcases h.2 with ⟨hv, hz⟩ | ⟨ad, cap, hv, h1, h2, hc⟩
 ·subst hz hv
  have hq := Tryz.eqnil w none 0 0
  clear h
  go_enter Tryz.func107, Tryz.ntmps107
  go_wp2
  go_ret
  exact ⟨_, rfl, Own.nil _ _ _ _, Below.refl _ _⟩
 ·obtain ⟨w1, hw1, sz1, bel1, own1⟩ := own_step .u8 5 w #[] 0 [] rfl rfl (by simp) (by simp)
  have hq := Tryz.eqnil w (some ad) bs.length cap
  simp only [Option.isNone_some] at hq
  have h1' := h.below bel1
  subst hv
  have X : Hid (∀ ty, ∃ v' w', (Builtin.append_ #[66, 66] ty #[.slice (some ⟨w.heap.size, 0, none⟩) 0 0, .slice (some ad) bs.length cap]).run Tryz.prog w1 = .ok v' w' ∧ (Own .u8 5 w.heap.size w' v' bs ∧ Below w.heap.size w w')) := hide fun ty => by
   obtain ⟨v', w', hr, ho, hg, _⟩ := run_append_is_at (P := Tryz.prog) 66 ty .u8 5 w.heap.size 1 Tryz.underlying66 Tryz.info5 (by decide) _ [] own1 _ bs h1' (by simp; omega) (by omega)
   exact ⟨v', w', hr, by simpa using ho, bel1.grown hg (by omega) fun k hk => by simp [Value.ownBlock] at hk; omega⟩
  clear own1 h1' h hc
  go_enter Tryz.func107, Tryz.ntmps107
  go_wp2_with (at_builtin; refine wpList_append_at rfl (.tmp 5) (.tmp 6) 66 rfl _ _ rfl rfl X.out ?_)
  intro v2 w2 own2 bel2
  go_wp2
  go_ret
  exact ⟨_, rfl, own2, bel2⟩

theorem Tryz.intT : Tryz.prog.underlying 3 = some (.int .i64) := by kernel_rfl

theorem zeros_u8 (n : Nat) : (Builtin.zeroCells (Value.int .u8 0).cells n).toList = (List.replicate n (0 : Int)).map (Value.int .u8) := by
 apply List.ext_getElem?
 intro i
 simp [Builtin.zeroCells, Value.cells, List.getElem?_replicate]
 by_cases h : i < n <;> simp [h, Nat.mod_one]

theorem run_zeros (w : World) (n : Nat) (h0 : 0 < n) (h1 : n ≤ 150000000000000) : Hid (∀ ty, ∃ v' w', (Builtin.append_ #[66, 3] ty #[.slice none 0 0, .int .i64 n]).run Tryz.prog w = .ok v' w' ∧ Own .u8 5 w.heap.size w' v' (List.replicate n 0) ∧ Below w.heap.size w w') := by
 obtain ⟨i, hi, hz, hsize, hb⟩ := info_parts Tryz.info5
 refine hide fun ty => ⟨_, _, Lib.run_append_nil_zeros w 66 3 ty 5 i (.int .u8 0) .i64 .i64 Tryz.underlying66 Tryz.intT hi hz n h0 (by omega) (by omega) (by rw [hb]; omega), ?_, ?_⟩
 ·refine ⟨fun z hz => ?_, ?_⟩
  ·rw [List.eq_of_mem_replicate hz]; rfl
  ·rw [List.length_replicate]
   refine own_new w (Value.int .u8 0).cells rfl _ n _ (by simp [Value.cells]) (grownCap_ge w n 0 _) (grownCap_le_maxLen w n 0 _ (by unfold maxLen; omega)) (Nat.le_refl _) _ ?_
   rw [← zeros_u8 n]
 ·exact (Below.refl _ _).grown (grown_new w _ none) (Nat.le_refl _) (fun k hk => by cases hk)

theorem wpList_append_ran {P : Program} {w : World} {ops : Array Oper} {rest : List Oper} {o : Oper} {a : Act} {Q : Exit → Act → World → Prop} (hgd : o.guard = none) (s x : Operand) (t tn : TypeId) (ho : o.op = .call { callee := .builtin .append, args := #[s, x], argTypes := #[t, tn] })
  (v vx : Value) (hs : a.eval s = v) (hx : a.eval x = vx) {R : Value → World → Prop} (hrun : ∀ ty, ∃ v' w', (Builtin.append_ #[t, tn] ty #[v, vx]).run P w = .ok v' w' ∧ R v' w')
  (h : ∀ v' w', R v' w' → wpList P ops Q rest (a.put o.dst v') w') : wpList P ops Q (o :: rest) a w := by
 obtain ⟨v', w', hr, hR⟩ := hrun o.type
 exact Lib.wpList_append_run w hgd s x t tn ho v vx hs hx v' w' hr (h v' w' hR)

set_option maxHeartbeats 1000000 in
theorem fgrow_any (n : Nat) (w : World) (h1 : n ≤ 150000000000000) :
  Calls Tryz.prog 181 #[.slice none 0 0, .int .i64 n] w fun E w' => ∃ v', E = .returned v' ∧ Own .u8 5 w.heap.size w' v' [] ∧ Below w.heap.size w w' := by
 have hn0 : ¬ (n : Int) < 0 := by omega
 have e1 : IntKind.i64.wrap ((n : Int) - 0) = n := by rw [wrap_i64_small _ (by omega) (by omega)]; omega
 have hsl := (Own.nil .u8 5 w.heap.size w).is.slice_h Tryz.elemP Tryz.sizeP 0 (by simp)
 by_cases h0 : 0 < n
 ·have X := run_zeros w n h0 h1
  have hn1 : (0 : Int) < n := by omega
  go_enter Tryz.func181, Tryz.ntmps181
  go_wp2_with (at_builtin; refine wpList_append_ran rfl (.tmp 20) (.tmp 21) 66 3 rfl _ _ rfl rfl X.out ?_)
  intro v2 w2 own2 bel2
  obtain ⟨vs, hvs, owns, _⟩ := own2.slice_h Tryz.elemP Tryz.sizeP 0 (by omega)
  have hvs' := hvs w2
  simp only [Int.natCast_zero] at hvs'
  clear X hvs hsl own2
  go_wp2
  go_ret
  exact ⟨_, rfl, by simpa using owns, bel2⟩
 ·obtain rfl : n = 0 := by omega
  clear e1
  go_enter Tryz.func181, Tryz.ntmps181
  go_wp2
  go_ret
  exact ⟨_, rfl, Own.nil _ _ _ _, Below.refl _ _⟩

def flt : List Bw → List Int
 | [] => []
 | a :: r => a.l ++ flt r

theorem flt_app : ∀ r s : List Bw, flt (r ++ s) = flt r ++ flt s
 | [], s => rfl
 | a :: r, s => by simp [flt, flt_app r s]

theorem flt_next {r : List Bw} {k : Nat} {a : Bw} (h : r[k]? = some a) : flt (r.take (k + 1)) = flt (r.take k) ++ a.l := by
 obtain ⟨h1, h2⟩ := List.getElem?_eq_some_iff.1 h
 rw [List.take_succ_eq_append_getElem h1, flt_app, h2]
 simp [flt]

theorem flt_le (r : List Bw) (k : Nat) : (flt (r.take k)).length ≤ (flt r).length := by
 have : flt r = flt (r.take k) ++ flt (r.drop k) := by rw [← flt_app, List.take_append_drop]
 rw [this, List.length_append]
 omega

set_option maxHeartbeats 2000000 in
theorem concat_any (v : Value) (r : List Bw) (w : World) (h : IsBB w v r) (hr : r.length ≤ 1000) (hl : (flt r).length ≤ 150000000000000) :
  Calls Tryz.prog 171 #[v] w fun E w' => ∃ v', E = .returned v' ∧ Own .u8 5 w.heap.size w' v' (flt r) ∧ Below w.heap.size w w' := by
 obtain ⟨ao, cap, hv, hcap, hcm⟩ := h.1.shape
 have H := hide h
 subst hv
 clear h
 go_enter Tryz.func171, Tryz.ntmps171
 go_wp2
 go_loopw [3, 11] (fun sv iv wr => ∃ k : Nat, k ≤ r.length ∧ iv = .int .i64 k ∧ sv = .int .i64 (flt (r.take k)).length ∧ w = wr) (fun _ iv _ => r.length - (intOf iv).toNat)
 case atStart => exact ⟨0, by omega, rfl, rfl, rfl⟩
 case round =>
  obtain ⟨k, hk, rfl, rfl, rfl⟩ := hrel
  by_cases hlt : k < r.length
  ·obtain ⟨b, off, cq, hvx, _, _, hB, hcell⟩ := H.out.full (by omega)
   simp only [Value.slice.injEq, true_and] at hvx
   obtain ⟨rfl, rfl⟩ := hvx
   obtain ⟨a, ha⟩ : ∃ a, r[k]? = some a := ⟨r[k], by rw [List.getElem?_eq_getElem]⟩
   have e4 := hcell k a ha
   obtain ⟨av, ac, hav, _, _⟩ := (H.out.2 a (List.mem_of_getElem? ha)).shape
   rw [hav] at e4
   have hlt' : (k : Int) < r.length := by omega
   have hn := flt_next ha
   have hm := flt_le r (k + 1)
   have hn2 : (flt (r.take (k + 1))).length = (flt (r.take k)).length + a.l.length := by rw [hn, List.length_append]
   have hn3 : ((flt (r.take (k + 1))).length : Int) = ((flt (r.take k)).length : Int) + (a.l.length : Int) := by omega
   generalize hq : (flt (r.take k)).length = q at *
   have e5 : IntKind.i64.wrap ((q : Int) + (a.l.length : Int)) = (q : Int) + a.l.length := wrap_i64_small _ (by omega) (by omega)
   have e6 : ¬ (q : Int) + (a.l.length : Int) < 0 := by omega
   have hk0 : (0 : Int) ≤ (k : Int) := by omega
   clear hcell hn hq hav ha
   go_wp2
   go_roundw
   case rel => exact ⟨k + 1, by omega, by go_num, by rw [hn3], trivial⟩
   case measure => simp [intOf]; omega
  ·obtain rfl : k = r.length := by omega
   rw [List.take_length]
   have hlt' : ¬ (r.length : Int) < r.length := by omega
   go_wp2_with fail
   refine (fgrow_any (flt r).length _ hl).mono ?_
   rintro E w1 ⟨v1, rfl, own1, bel1⟩
   have H1 := hide (H.out.below bel1)
   go_wp2
   go_loopw [6, 27] (fun sv iv wr => ∃ k : Nat, k ≤ r.length ∧ iv = .int .i64 k ∧ Own .u8 5 w.heap.size wr sv (flt (r.take k)) ∧ Below w.heap.size w wr) (fun _ iv _ => r.length - (intOf iv).toNat)
   case atStart => exact ⟨0, by omega, rfl, own1, bel1⟩
   case round =>
    clear own1 bel1 H1
    obtain ⟨k, hk, rfl, own, bel⟩ := hrel
    have szr := bel.size
    by_cases hlt : k < r.length
    ·have H2 := H.out.below bel
     obtain ⟨b, off, cq, hvx, _, _, hB, hcell⟩ := H2.full (by omega)
     simp only [Value.slice.injEq, true_and] at hvx
     obtain ⟨rfl, rfl⟩ := hvx
     obtain ⟨a, ha⟩ : ∃ a, r[k]? = some a := ⟨r[k], by rw [List.getElem?_eq_getElem]⟩
     have e4 := hcell k a ha
     have isa := H2.2 a (List.mem_of_getElem? ha)
     have hlt' : (k : Int) < r.length := by omega
     have hn := hide (flt_next ha)
     have hm := flt_le r (k + 1)
     have hn2 : (flt (r.take (k + 1))).length = (flt (r.take k)).length + a.l.length := by rw [hn.out, List.length_append]
     have hk0 : (0 : Int) ≤ (k : Int) := by omega
     have sum : (flt (r.take k)).length + a.l.length ≤ 150000000000000 := by omega
     clear hcell ha H2 hn2 hm
     generalize flt (r.take k) = q at *
     go_wp2_with (at_builtin; refine wpList_append_is rfl (.tmp 31) (.tmp 32) 66 rfl .u8 5 w.heap.size 1 Tryz.underlying66 Tryz.info5 (by decide) _ q rfl own _ a.l rfl isa (by simp; omega) szr ?_)
     intro v2 w2 own2 bel2 _
     rw [← hn.out] at own2
     have b3 := bel.trans bel2
     clear own isa e4 bel2
     go_wp2
     go_roundw
     case rel => exact ⟨k + 1, by omega, by go_num, own2, b3⟩
     case measure => simp [intOf]; omega
    ·obtain rfl : k = r.length := by omega
     rw [List.take_length] at own
     have hlt' : ¬ (r.length : Int) < r.length := by omega
     go_wp2
     go_ret
     exact ⟨_, rfl, own, bel⟩

def apd (bs r : List Int) : List Int := if r.length ≤ 131072 then bs ++ Fm.frm r else []
def ape (r : List Int) : Int := if r.length ≤ 131072 then 0 else 3

theorem conv_len (n : Nat) (h : n ≤ 140737488355328) : IntKind.u64.wrap (n : Int) = n := by
 rw [IntKind.wrap_u64]; omega

set_option maxHeartbeats 2000000 in
theorem fapp_any (vb vr : Value) (bs r : List Int) (w : World) (hb : Is .u8 w vb bs) (hr : Is .u8 w vr r) (hl : bs.length ≤ 140737488351232) (hl' : r.length ≤ 140737488351232) :
  Calls Tryz.prog 154 #[vb, vr] w fun E w' => ∃ v', E = .returned (.tuple #[v', .int .i64 (ape r)]) ∧ Own .u8 5 w.heap.size w' v' (apd bs r) ∧ Below w.heap.size w w' := by
 obtain ⟨ro, rc, hv, hcap, hcm⟩ := hr.shape
 subst hv
 obtain ⟨bo, bc, hv, hcap', hcm'⟩ := hb.shape
 subst hv
 have HB := hide hb
 have HR := hide hr
 clear hb hr
 by_cases hlong : r.length ≤ 131072
 ·have e1 : ape r = 0 := if_pos hlong
  have e2 : apd bs r = bs ++ Fm.frm r := if_pos hlong
  rw [e1, e2]
  have hn : ¬ (131072 : Int) < (r.length : Int) := by omega
  have e3 : IntKind.u64.wrap (r.length : Int) = r.length := conv_len _ (by omega)
  have hz := Fm.sz3 hlong
  clear e1 e2
  go_enter Tryz.func154, Tryz.ntmps154
  go_wp2_with fail
  refine (app_any (.slice none 0 0) [] (r.length : Int) _ (Own.nil .u8 5 w.heap.size w).is (by simp) (by omega) (by omega)).mono ?_
  rintro E w1 ⟨v1, rfl, own1, bel1⟩
  rw [List.nil_append, Int.toNat_natCast] at own1
  obtain ⟨no, nc, hv, _, _⟩ := own1.is.shape
  subst hv
  generalize hvn : Value.slice no (Vm.enc r.length).length nc = v1 at *
  generalize hvb : Value.slice bo bs.length bc = vb at *
  obtain ⟨w2, hw2, sz2, bel2, B2⟩ := blk_step w1 #[vb, v1, .slice ro r.length rc] 66
  have row : IsBB w2 (.slice (some ⟨w1.heap.size, 0, none⟩) 3 3) [⟨vb, bs⟩, ⟨v1, Vm.enc r.length⟩, ⟨.slice ro r.length rc, r⟩] := by
   refine ⟨?_, ?_⟩
   ·obtain ⟨W, hW, _, _, ho⟩ := rows_step bwc 1 bwc_len 66 w1 #[vb, v1, .slice ro r.length rc] 3 [⟨vb, bs⟩, ⟨v1, Vm.enc r.length⟩, ⟨.slice ro r.length rc, r⟩] rfl rfl (by unfold maxLen; omega)
    rw [← hw2, hW]
    exact ho.row
   ·intro a ha
    simp at ha
    rcases ha with rfl | rfl | rfl
    ·exact (HB.out.below bel1).below bel2
    ·exact (own1.below bel2).is
    ·exact (HR.out.below bel1).below bel2
  have szs := bel1.size
  have HC := hide (concat_any _ _ w2 row (by simp) (by simp [flt]; have : (Vm.enc r.length).length ≤ 3 := hz; omega))
  have b02 : Below w.heap.size w w2 := bel1.trans (bel2.mono szs)
  clear own1 row bel1 bel2 B2
  subst hvn hvb
  go_wp2_with fail
  refine HC.out.mono ?_
  rintro E w3 ⟨v3, rfl, own3, bel3⟩
  have own4 : Own .u8 5 w2.heap.size w3 v3 (bs ++ Fm.frm r) := by simpa [flt, Fm.frm] using own3
  clear HC own3
  go_wp2
  go_ret2
  exact ⟨_, rfl, own4.rebase (by omega), b02.trans (bel3.mono (by omega))⟩
 ·have e1 : ape r = 3 := if_neg hlong
  have e2 : apd bs r = [] := if_neg hlong
  rw [e1, e2]
  have hn : (131072 : Int) < (r.length : Int) := by omega
  go_enter Tryz.func154, Tryz.ntmps154
  go_wp2
  go_ret2
  exact ⟨_, rfl, Own.nil _ _ _ _, Below.refl _ _⟩

theorem sres_step {bs : List Int} {most : Nat} {u i g : Int} (hm : most < 18446744073709551616) (h : SRes bs most u i g) :
  (∃ x : Nat, u = x ∧ i = Vm.sz x ∧ g = 0 ∧ x ≤ most ∧ Vm.enc x <+: bs) ∨ (u = 0 ∧ i = 0 ∧ g = 5 ∧ ∀ x : Nat, x ≤ most → ¬ Vm.enc x <+: bs) := by
 rcases h with ⟨hR, h1, h2, he⟩ | ⟨hu, hi, he, x, n, f, hR, hcase⟩
 ·rcases hR with ⟨x, hx, hp, h3, h4, _⟩ | ⟨_, _, _, h5⟩
  ·exact .inl ⟨x, h3, h4, he, by omega, hp⟩
  ·simp at h5
 ·refine .inr ⟨hu, hi, he, fun y hy hp => ?_⟩
  have := Vm.res_good hR (u := y) (by omega) hp
  omega

theorem rd_bad {bs : List Int} (h : ∀ x : Nat, x ≤ 131072 → ¬ Vm.enc x <+: bs) : Fm.Rd bs [] 0 5 := .inr ⟨rfl, rfl, rfl, fun s hs hp => h _ hs (Fm.frm_pre hp).1⟩

theorem rd_short {bs : List Int} {x : Nat} (h : Vm.enc x <+: bs) (hx : bs.length - Vm.sz x < x) : Fm.Rd bs [] 0 5 := .inr ⟨rfl, rfl, rfl, fun s hs hp => by
 obtain ⟨h1, h2, _⟩ := Fm.frm_pre hp
 have := Vm.pre_one bs _ _ h h1
 subst this
 omega⟩

theorem rd_good {bs : List Int} {x : Nat} (h : Vm.enc x <+: bs) (h' : x ≤ 131072) (hx : x ≤ bs.length - Vm.sz x) : Fm.Rd bs ((bs.drop (Vm.sz x)).take x) (Vm.sz x + x) 0 := by
 obtain ⟨h1, h2⟩ := Fm.frm_of h hx
 exact .inl ⟨rfl, by omega, by rw [h1], h2⟩

set_option maxHeartbeats 1000000 in
theorem fread_any (vb : Value) (bs : List Int) (w : World) (hb : Is .u8 w vb bs) (hl : bs.length ≤ 150000000000000) :
  Calls Tryz.prog 66 #[vb] w fun E w' => ∃ (v : Value) (r : List Int) (n : Nat) (e : Int), E = .returned (.tuple #[v, .int .i64 n, .int .i64 e]) ∧ Own .u8 5 w.heap.size w' v r ∧ Below w.heap.size w w' ∧ Hid (Fm.Rd bs r n e) := by
 obtain ⟨u, i, g, hS⟩ := sres_is bs ((131072 : Nat) : Int)
 have HS := hide (small_any vb bs _ u i g w hb hl (by omega) (by omega) hS)
 rcases sres_step (by omega) hS with ⟨x, rfl, rfl, rfl, hx, hp⟩ | ⟨rfl, rfl, rfl, hno⟩
 ·have hz := Fm.sz3 hx
  have hpl : Vm.sz x ≤ bs.length := hp.length_le
  by_cases hlong : x ≤ bs.length - Vm.sz x
  ·have R := hide (rd_good hp hx hlong)
   obtain ⟨vs, hsl, isl⟩ := hb.slice_lh Tryz.elemP Tryz.sizeP (Vm.sz x) (Vm.sz x + x) (by omega) (by omega)
   rw [show Vm.sz x + x - Vm.sz x = x by omega] at isl
   have hlt : ((bs.drop (Vm.sz x)).take x).length ≤ 131072 := by rw [List.length_take, List.length_drop]; omega
   have HC := hide (bclone_any vs _ w isl (by omega))
   obtain ⟨ao, cap, hv, hcap, hcm⟩ := hb.shape
   subst hv
   clear hb isl hlt hS hp
   generalize (bs.drop (Vm.sz x)).take x = r at *
   generalize Vm.sz x = m at *
   have e1 : IntKind.i64.wrap ((bs.length : Int) - (m : Int)) = (bs.length : Int) - m := wrap_i64_small _ (by omega) (by omega)
   have e2 : IntKind.i64.wrap ((m : Int) + (x : Int)) = (m : Int) + x := wrap_i64_small _ (by omega) (by omega)
   have e3 : ¬ (bs.length : Int) - m < x := by omega
   have hsl2 : ∀ wx, (Instr.slice 66 (.slice ao bs.length cap) (some (.int .i64 (m : Int))) (some (.int .i64 ((m : Int) + (x : Int)))) none).run Tryz.prog wx = .ok vs wx := by simpa using hsl
   clear hsl
   go_enter Tryz.func66, Tryz.ntmps66
   go_wp2_with fail
   refine HS.out.mono ?_
   rintro E w1 ⟨rfl, rfl⟩
   clear HS
   go_wp2_with fail
   refine HC.out.mono ?_
   rintro E w2 ⟨v2, rfl, own2, bel2⟩
   clear HC hsl2
   go_wp2
   go_ret3
   exact ⟨v2, r, m + x, 0, by simp, own2, bel2, R⟩
  ·have R := hide (rd_short hp (by omega))
   obtain ⟨ao, cap, hv, hcap, hcm⟩ := hb.shape
   subst hv
   clear hb hS hp
   generalize Vm.sz x = m at *
   have e1 : IntKind.i64.wrap ((bs.length : Int) - (m : Int)) = (bs.length : Int) - m := wrap_i64_small _ (by omega) (by omega)
   have e3 : (bs.length : Int) - m < x := by omega
   go_enter Tryz.func66, Tryz.ntmps66
   go_wp2_with fail
   refine HS.out.mono ?_
   rintro E w1 ⟨rfl, rfl⟩
   clear HS
   go_wp2
   go_ret3
   exact ⟨_, [], 0, 5, rfl, Own.nil _ _ _ _, Below.refl _ _, R⟩
 ·have R := hide (rd_bad hno)
  clear hb hS hno
  go_enter Tryz.func66, Tryz.ntmps66
  go_wp2_with fail
  refine HS.out.mono ?_
  rintro E w1 ⟨rfl, rfl⟩
  clear HS
  go_wp2
  go_ret3
  exact ⟨_, [], 0, 5, rfl, Own.nil _ _ _ _, Below.refl _ _, R⟩

end Go.Proofs.YtmmfakpphjjjfaaGreat
