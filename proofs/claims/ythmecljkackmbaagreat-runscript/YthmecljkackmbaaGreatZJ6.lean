/- Texts of one layer, one behind the other. -/
import Derived.Test.YthmecljkackmbaaGreatZJ4
import Derived.Test.YthmecljkackmbaaGreatZJ5
import Derived.Test.YthmecljkackmbaaGreatZD3
import Derived.Test.YthmecljkackmbaaGreatZPj
/- The law's pair: a call of both. -/
namespace Go.Proofs.YthmecljkackmbaaGreat
open Go.RowKit
set_option linter.unusedVariables false

/-- What a call leaves. -/
def PD (w0 : World) (r q y k : Nat) (w' : World) : Prop := ∃ s' p' x' F' G', RP w0 r w' s' s' p' q x' y F' G' ∧ RIn (k + 1) s'

def acv (a : Ac) : Value := .agg #[.int .i64 a.k, .int .i64 a.n, .int .i64 a.t, .int .i64 a.c.e, .int .i64 a.c.n, a.c.v]

section
variable {w0 w : World} {r p q x y : Nat} {s t : Rl.Rs} {F G : Nat → Prop}

theorem RP.callW {s' : Rl.Rs} {f : FuncId} {args : Array Value} {e : Int} (h : RP w0 r w s t p q x y F G) (hc : Calls Tryz.prog f args w fun E w' => E = .returned (.int .i64 e) ∧ RStep p q F w w' s') :
    Calls Tryz.prog f args w fun E w' => E = .returned (.int .i64 e) ∧ ∃ F', RP w0 r w' s' t p q x y F' G ∧ Out F w w' ∧ ∀ g, F' g → F g ∨ w.heap.size ≤ g :=
  hc.mono fun E w' k => ⟨k.1, h.stepW k.2⟩

theorem RP.callX {t' : Rl.Rs} {f : FuncId} {args : Array Value} {e : Int} (h : RP w0 r w s t p q x y F G) (hc : Calls Tryz.prog f args w fun E w' => E = .returned (.int .i64 e) ∧ XwS x y G w w' t') :
    Calls Tryz.prog f args w fun E w' => E = .returned (.int .i64 e) ∧ ∃ G', RP w0 r w' s t' p q x y F G' ∧ Out G w w' ∧ ∀ g, G' g → G g ∨ w.heap.size ≤ g :=
  hc.mono fun E w' k => ⟨k.1, h.stepX k.2⟩

end

set_option maxRecDepth 20000 in
set_option maxHeartbeats 4000000 in
theorem rcall3 (w0 : World) (r : Nat) (w : World) (s : Rl.Rs) (p q x y : Nat) (F G : Nat → Prop) (h : RP w0 r w s s p q x y F G) (k : Nat) (hin : RIn k s) (hk : k ≤ 90) (a : Ac) (ha : AcOk w a) (hp : pk a.k 5 = 3) :
    Calls Tryz.prog 44 #[.pointer (some ⟨r, 0, none⟩), acv a] w fun E w' => E = .returned (.bool true) ∧ PD w0 r q y k w' := by
  unfold acv
  obtain ⟨ao, cap, hcv, _, _⟩ := ha.1.shape
  obtain ⟨w1, hw1, sz1, bel1, hB⟩ := blk_step w #[.int .i64 a.k, .int .i64 a.n, .int .i64 a.t, .int .i64 a.c.e, .int .i64 a.c.n, a.c.v] 95
  have c0 : w1.cell? ⟨w.heap.size, 0, none⟩ = some (.int .i64 a.k) := blk_cell hB 0 rfl
  have n1 : w1.cell? ⟨w.heap.size, 1, none⟩ = some (.int .i64 a.n) := blk_cell hB 1 rfl
  have n2 : w1.cell? ⟨w.heap.size, 2, none⟩ = some (.int .i64 a.t) := blk_cell hB 2 rfl
  have PK := hide (pickx_any a.k 5 w1 (by decide) (by decide) ha.2.1.1)
  rw [hp] at PK
  have h1 := h.below bel1
  obtain ⟨a0, a1, a2, a3⟩ := h1.cells
  have wb := hin.rbig (by omega)
  have hww : w.heap.size < w1.heap.size := by omega
  have nF : ¬ F w.heap.size := fun e => by have := h.ww.lt _ e; omega
  have nG : ¬ G w.heap.size := fun e => by have := h.xx.lt _ e; omega
  have S1 : Hid (∀ W, Below w1.heap.size w1 W → Calls Tryz.prog 21 #[.pointer (some ⟨q, 0, none⟩), .int .i64 a.n] W fun E w' => E = .returned (.int .i64 (Dm.fuse s.d a.n).1) ∧ (∃ F', RP w0 r w' ⟨(Dm.fuse s.d a.n).2, s.l, s.bk⟩ s p q x y F' G) ∧ w'.heap[w.heap.size]? = some (.cells #[.int .i64 a.k, .int .i64 a.n, .int .i64 a.t, .int .i64 a.c.e, .int .i64 a.c.n, a.c.v] 95 (0, 0)) ∧ (w'.cell? ⟨r, 0, none⟩ = some (.pointer (some ⟨q, 0, none⟩)) ∧ w'.cell? ⟨r, 1, none⟩ = some (.pointer (some ⟨p, 0, none⟩)) ∧ w'.cell? ⟨r, 2, none⟩ = some (.pointer (some ⟨y, 0, none⟩)) ∧ w'.cell? ⟨r, 3, none⟩ = some (.pointer (some ⟨x, 0, none⟩))) ∧ w'.cell? ⟨w.heap.size, 1, none⟩ = some (.int .i64 a.n) ∧ w'.cell? ⟨w.heap.size, 2, none⟩ = some (.int .i64 a.t)) := hide fun W hW => by
    have h2 := h1.below hW
    have hb2 := (hW.block w.heap.size hww).trans hB
    refine (h2.disk (st' := (Dm.fuse s.d a.n).2) fun F1 hP => fuse_any q F1 W s.d a.n hP).mono ?_
    rintro E w' ⟨rfl, F', k1, o1, _⟩
    have hb3 := (o1.block w.heap.size (Nat.lt_of_lt_of_le hww hW.size) nF).trans hb2
    exact ⟨rfl, ⟨F', k1⟩, hb3, k1.cells, blk_cell hb3 1 rfl, blk_cell hb3 2 rfl⟩
  have S2 : Hid (∀ W F', RP w0 r W ⟨(Dm.fuse s.d a.n).2, s.l, s.bk⟩ s p q x y F' G → W.heap[w.heap.size]? = some (.cells #[.int .i64 a.k, .int .i64 a.n, .int .i64 a.t, .int .i64 a.c.e, .int .i64 a.c.n, a.c.v] 95 (0, 0)) → Calls Tryz.prog 22 #[.pointer (some ⟨y, 0, none⟩), .int .i64 a.n] W fun E w' => E = .returned (.int .i64 (Dm.fuse s.d a.n).1) ∧ PD w0 r q y k w' ∧ (w'.cell? ⟨r, 0, none⟩ = some (.pointer (some ⟨q, 0, none⟩)) ∧ w'.cell? ⟨r, 1, none⟩ = some (.pointer (some ⟨p, 0, none⟩)) ∧ w'.cell? ⟨r, 2, none⟩ = some (.pointer (some ⟨y, 0, none⟩)) ∧ w'.cell? ⟨r, 3, none⟩ = some (.pointer (some ⟨x, 0, none⟩))) ∧ w'.cell? ⟨w.heap.size, 1, none⟩ = some (.int .i64 a.n) ∧ w'.cell? ⟨w.heap.size, 2, none⟩ = some (.int .i64 a.t)) := hide fun W F' hW hb2 => by
    refine (hW.diskX (st' := (Dm.fuse s.d a.n).2) fun F1 hP => fuseR_any y F1 W s.d a.n hP).mono ?_
    rintro E w' ⟨rfl, G', k1, o1, _⟩
    have hb3 := (o1.block w.heap.size (blk_lt hb2) nG).trans hb2
    exact ⟨rfl, ⟨_, p, x, F', G', k1, rin_fuse hin a.n ha.2.1.2.1.2⟩, k1.cells, blk_cell hb3 1 rfl, blk_cell hb3 2 rfl⟩
  rw [hcv] at hw1 ⊢
  generalize hz : (Dm.fuse s.d a.n).1 = z at *
  clear h h1 hin hB hcv wb nF nG ha hz
  go_enter Tryz.func44, Tryz.ntmps44
  go_wp2_with fail
  refine PK.out.mono ?_
  rintro E w2 ⟨rfl, rfl⟩
  clear PK
  go_wp2_with fail
  go_region_held3 (fun w' => (w'.cell? ⟨r, 0, none⟩ = some (.pointer (some ⟨q, 0, none⟩)) ∧ w'.cell? ⟨r, 1, none⟩ = some (.pointer (some ⟨p, 0, none⟩)) ∧ w'.cell? ⟨r, 2, none⟩ = some (.pointer (some ⟨y, 0, none⟩)) ∧ w'.cell? ⟨r, 3, none⟩ = some (.pointer (some ⟨x, 0, none⟩))) ∧ w'.cell? ⟨w.heap.size, 1, none⟩ = some (.int .i64 a.n) ∧ w'.cell? ⟨w.heap.size, 2, none⟩ = some (.int .i64 a.t)) (first | exact ⟨⟨a0, a1, a2, a3⟩, n1, n2⟩ | exact ⟨⟨d0, d1, d2, d3⟩, d4, d5⟩ | exact ⟨⟨e0, e1, e2, e3⟩, e4, e5⟩ | go_keep)
    (first
    | (go_at_call 21; refine (S1.out _ ((Below.refl _ _).drew)).mono ?_; rintro E w3 ⟨rfl, ⟨F3, P3⟩, B3, ⟨d0, d1, d2, d3⟩, d4, d5⟩; have P3 := hide P3; have B3 := hide B3)
    | (go_at_call 22; refine (S2.out _ _ P3.out B3.out).mono ?_; rintro E w4 ⟨rfl, J, ⟨e0, e1, e2, e3⟩, e4, e5⟩; have J := hide J))
  all_goals
    go_wp2
    go_ret
    exact ⟨rfl, J.out⟩

set_option maxRecDepth 20000 in
set_option maxHeartbeats 4000000 in
theorem rcall4 (w0 : World) (r : Nat) (w : World) (s : Rl.Rs) (p q x y : Nat) (F G : Nat → Prop) (h : RP w0 r w s s p q x y F G) (k : Nat) (hin : RIn k s) (hk : k ≤ 90) (a : Ac) (ha : AcOk w a) (hp : pk a.k 5 = 4) :
    Calls Tryz.prog 44 #[.pointer (some ⟨r, 0, none⟩), acv a] w fun E w' => E = .returned (.bool true) ∧ PD w0 r q y k w' := by
  unfold acv
  obtain ⟨ao, cap, hcv, _, _⟩ := ha.1.shape
  obtain ⟨w1, hw1, sz1, bel1, hB⟩ := blk_step w #[.int .i64 a.k, .int .i64 a.n, .int .i64 a.t, .int .i64 a.c.e, .int .i64 a.c.n, a.c.v] 95
  have c0 : w1.cell? ⟨w.heap.size, 0, none⟩ = some (.int .i64 a.k) := blk_cell hB 0 rfl
  have n1 : w1.cell? ⟨w.heap.size, 1, none⟩ = some (.int .i64 a.n) := blk_cell hB 1 rfl
  have n2 : w1.cell? ⟨w.heap.size, 2, none⟩ = some (.int .i64 a.t) := blk_cell hB 2 rfl
  have PK := hide (pickx_any a.k 5 w1 (by decide) (by decide) ha.2.1.1)
  rw [hp] at PK
  have h1 := h.below bel1
  obtain ⟨a0, a1, a2, a3⟩ := h1.cells
  have wb := hin.rbig (by omega)
  have hww : w.heap.size < w1.heap.size := by omega
  have nF : ¬ F w.heap.size := fun e => by have := h.ww.lt _ e; omega
  have nG : ¬ G w.heap.size := fun e => by have := h.xx.lt _ e; omega
  have S1 : Hid (Calls Tryz.prog 43 #[.pointer (some ⟨r, 0, none⟩)] w1 fun E w' => E = .returned (.bool true) ∧ PD w0 r q y k w') := hide ((h1.opened hin.big hin.len (by omega)).mono fun E w' k => ⟨k.1, k.2.1⟩)
  rw [hcv] at hw1 ⊢
  clear h h1 hin hB hcv wb nF nG ha
  go_enter Tryz.func44, Tryz.ntmps44
  go_wp2_with fail
  refine PK.out.mono ?_
  rintro E w2 ⟨rfl, rfl⟩
  clear PK
  go_wp2_with fail
  refine S1.out.mono ?_
  rintro E w3 ⟨rfl, J⟩
  have J := hide J
  go_wp2
  go_ret
  exact ⟨rfl, J.out⟩

set_option maxRecDepth 20000 in
set_option maxHeartbeats 4000000 in
theorem rcall2 (w0 : World) (r : Nat) (w : World) (s : Rl.Rs) (p q x y : Nat) (F G : Nat → Prop) (h : RP w0 r w s s p q x y F G) (k : Nat) (hin : RIn k s) (hk : k ≤ 90) (a : Ac) (ha : AcOk w a) (hp : pk a.k 5 = 2) :
    Calls Tryz.prog 44 #[.pointer (some ⟨r, 0, none⟩), acv a] w fun E w' => E = .returned (.bool true) ∧ PD w0 r q y k w' := by
  unfold acv
  obtain ⟨ao, cap, hcv, _, _⟩ := ha.1.shape
  obtain ⟨w1, hw1, sz1, bel1, hB⟩ := blk_step w #[.int .i64 a.k, .int .i64 a.n, .int .i64 a.t, .int .i64 a.c.e, .int .i64 a.c.n, a.c.v] 95
  have c0 : w1.cell? ⟨w.heap.size, 0, none⟩ = some (.int .i64 a.k) := blk_cell hB 0 rfl
  have n1 : w1.cell? ⟨w.heap.size, 1, none⟩ = some (.int .i64 a.n) := blk_cell hB 1 rfl
  have n2 : w1.cell? ⟨w.heap.size, 2, none⟩ = some (.int .i64 a.t) := blk_cell hB 2 rfl
  have PK := hide (pickx_any a.k 5 w1 (by decide) (by decide) ha.2.1.1)
  rw [hp] at PK
  have h1 := h.below bel1
  obtain ⟨a0, a1, a2, a3⟩ := h1.cells
  have wb := hin.rbig (by omega)
  have hww : w.heap.size < w1.heap.size := by omega
  have nF : ¬ F w.heap.size := fun e => by have := h.ww.lt _ e; omega
  have nG : ¬ G w.heap.size := fun e => by have := h.xx.lt _ e; omega
  have b2 := big_pull hin.big
  have b3 := big_start b2 a.n a.t
  have D1 : Hid (∀ W F' G', RP w0 r W s s p q x y F' G' → ¬ F' w.heap.size → ¬ G' w.heap.size → W.heap[w.heap.size]? = some (.cells #[.int .i64 a.k, .int .i64 a.n, .int .i64 a.t, .int .i64 a.c.e, .int .i64 a.c.n, a.c.v] 95 (0, 0)) → Calls Tryz.prog 100 #[.pointer (some ⟨q, 0, none⟩)] W fun E w' => E = .returned (.int .i64 (Dm.pull s.d).1) ∧ (∃ F2 G2, RP w0 r w' ⟨(Dm.pull s.d).2, s.l, s.bk⟩ s p q x y F2 G2 ∧ ¬ F2 w.heap.size ∧ ¬ G2 w.heap.size ∧ w'.heap[w.heap.size]? = some (.cells #[.int .i64 a.k, .int .i64 a.n, .int .i64 a.t, .int .i64 a.c.e, .int .i64 a.c.n, a.c.v] 95 (0, 0))) ∧ (w'.cell? ⟨r, 0, none⟩ = some (.pointer (some ⟨q, 0, none⟩)) ∧ w'.cell? ⟨r, 1, none⟩ = some (.pointer (some ⟨p, 0, none⟩)) ∧ w'.cell? ⟨r, 2, none⟩ = some (.pointer (some ⟨y, 0, none⟩)) ∧ w'.cell? ⟨r, 3, none⟩ = some (.pointer (some ⟨x, 0, none⟩))) ∧ w'.cell? ⟨w.heap.size, 1, none⟩ = some (.int .i64 a.n) ∧ w'.cell? ⟨w.heap.size, 2, none⟩ = some (.int .i64 a.t)) := hide fun W F' G' hW n1 n2 hb2 => by
    refine (hW.disk (st' := (Dm.pull s.d).2) fun F1 hP => pull_any q F1 W s.d hP).mono ?_
    rintro E w' ⟨rfl, X, k1, o1, s1⟩
    have hlt := blk_lt hb2
    have hb3 := (o1.block w.heap.size hlt n1).trans hb2
    exact ⟨rfl, ⟨X, G', k1, fun e => (s1 _ e).elim n1 (by omega), n2, hb3⟩, k1.cells, blk_cell hb3 1 rfl, blk_cell hb3 2 rfl⟩
  have D2 : Hid (∀ W F' G', RP w0 r W ⟨(Dm.pull s.d).2, s.l, s.bk⟩ s p q x y F' G' → ¬ F' w.heap.size → ¬ G' w.heap.size → W.heap[w.heap.size]? = some (.cells #[.int .i64 a.k, .int .i64 a.n, .int .i64 a.t, .int .i64 a.c.e, .int .i64 a.c.n, a.c.v] 95 (0, 0)) → Calls Tryz.prog 101 #[.pointer (some ⟨y, 0, none⟩)] W fun E w' => E = .returned (.int .i64 (Dm.pull s.d).1) ∧ (∃ F2 G2, RP w0 r w' ⟨(Dm.pull s.d).2, s.l, s.bk⟩ ⟨(Dm.pull s.d).2, s.l, s.bk⟩ p q x y F2 G2 ∧ ¬ F2 w.heap.size ∧ ¬ G2 w.heap.size ∧ w'.heap[w.heap.size]? = some (.cells #[.int .i64 a.k, .int .i64 a.n, .int .i64 a.t, .int .i64 a.c.e, .int .i64 a.c.n, a.c.v] 95 (0, 0))) ∧ (w'.cell? ⟨r, 0, none⟩ = some (.pointer (some ⟨q, 0, none⟩)) ∧ w'.cell? ⟨r, 1, none⟩ = some (.pointer (some ⟨p, 0, none⟩)) ∧ w'.cell? ⟨r, 2, none⟩ = some (.pointer (some ⟨y, 0, none⟩)) ∧ w'.cell? ⟨r, 3, none⟩ = some (.pointer (some ⟨x, 0, none⟩))) ∧ w'.cell? ⟨w.heap.size, 1, none⟩ = some (.int .i64 a.n) ∧ w'.cell? ⟨w.heap.size, 2, none⟩ = some (.int .i64 a.t)) := hide fun W F' G' hW n1 n2 hb2 => by
    refine (hW.diskX (st' := (Dm.pull s.d).2) fun F1 hP => pullR_any y F1 W s.d hP).mono ?_
    rintro E w' ⟨rfl, X, k1, o1, s1⟩
    have hlt := blk_lt hb2
    have hb3 := (o1.block w.heap.size hlt n2).trans hb2
    exact ⟨rfl, ⟨F', X, k1, n1, fun e => (s1 _ e).elim n2 (by omega), hb3⟩, k1.cells, blk_cell hb3 1 rfl, blk_cell hb3 2 rfl⟩
  have D3 : Hid (∀ W F' G', RP w0 r W ⟨(Dm.pull s.d).2, s.l, s.bk⟩ ⟨(Dm.pull s.d).2, s.l, s.bk⟩ p q x y F' G' → ¬ F' w.heap.size → ¬ G' w.heap.size → W.heap[w.heap.size]? = some (.cells #[.int .i64 a.k, .int .i64 a.n, .int .i64 a.t, .int .i64 a.c.e, .int .i64 a.c.n, a.c.v] 95 (0, 0)) → Calls Tryz.prog 102 #[.pointer (some ⟨q, 0, none⟩), .int .i64 a.n, .int .i64 a.t] W fun E w' => E = .returned (.int .i64 (Dm.start (Dm.pull s.d).2 a.n a.t).1) ∧ (∃ F2 G2, RP w0 r w' ⟨(Dm.start (Dm.pull s.d).2 a.n a.t).2, s.l, s.bk⟩ ⟨(Dm.pull s.d).2, s.l, s.bk⟩ p q x y F2 G2 ∧ ¬ F2 w.heap.size ∧ ¬ G2 w.heap.size ∧ w'.heap[w.heap.size]? = some (.cells #[.int .i64 a.k, .int .i64 a.n, .int .i64 a.t, .int .i64 a.c.e, .int .i64 a.c.n, a.c.v] 95 (0, 0))) ∧ (w'.cell? ⟨r, 0, none⟩ = some (.pointer (some ⟨q, 0, none⟩)) ∧ w'.cell? ⟨r, 1, none⟩ = some (.pointer (some ⟨p, 0, none⟩)) ∧ w'.cell? ⟨r, 2, none⟩ = some (.pointer (some ⟨y, 0, none⟩)) ∧ w'.cell? ⟨r, 3, none⟩ = some (.pointer (some ⟨x, 0, none⟩))) ∧ w'.cell? ⟨w.heap.size, 1, none⟩ = some (.int .i64 a.n) ∧ w'.cell? ⟨w.heap.size, 2, none⟩ = some (.int .i64 a.t)) := hide fun W F' G' hW n1 n2 hb2 => by
    refine (hW.disk (st' := (Dm.start (Dm.pull s.d).2 a.n a.t).2) fun F1 hP => start_any q F1 W (Dm.pull s.d).2 a.n a.t hP ha.2.1.2.2.2 (fun f => Nat.le_trans (b2.1.1 f) (by omega)) (Nat.le_trans b2.1.2.1 (by omega))).mono ?_
    rintro E w' ⟨rfl, X, k1, o1, s1⟩
    have hlt := blk_lt hb2
    have hb3 := (o1.block w.heap.size hlt n1).trans hb2
    exact ⟨rfl, ⟨X, G', k1, fun e => (s1 _ e).elim n1 (by omega), n2, hb3⟩, k1.cells, blk_cell hb3 1 rfl, blk_cell hb3 2 rfl⟩
  have D4 : Hid (∀ W F' G', RP w0 r W ⟨(Dm.start (Dm.pull s.d).2 a.n a.t).2, s.l, s.bk⟩ ⟨(Dm.pull s.d).2, s.l, s.bk⟩ p q x y F' G' → ¬ F' w.heap.size → ¬ G' w.heap.size → W.heap[w.heap.size]? = some (.cells #[.int .i64 a.k, .int .i64 a.n, .int .i64 a.t, .int .i64 a.c.e, .int .i64 a.c.n, a.c.v] 95 (0, 0)) → Calls Tryz.prog 103 #[.pointer (some ⟨y, 0, none⟩), .int .i64 a.n, .int .i64 a.t] W fun E w' => E = .returned (.int .i64 (Dm.start (Dm.pull s.d).2 a.n a.t).1) ∧ (∃ F2 G2, RP w0 r w' ⟨(Dm.start (Dm.pull s.d).2 a.n a.t).2, s.l, s.bk⟩ ⟨(Dm.start (Dm.pull s.d).2 a.n a.t).2, s.l, s.bk⟩ p q x y F2 G2 ∧ ¬ F2 w.heap.size ∧ ¬ G2 w.heap.size ∧ w'.heap[w.heap.size]? = some (.cells #[.int .i64 a.k, .int .i64 a.n, .int .i64 a.t, .int .i64 a.c.e, .int .i64 a.c.n, a.c.v] 95 (0, 0))) ∧ (w'.cell? ⟨r, 0, none⟩ = some (.pointer (some ⟨q, 0, none⟩)) ∧ w'.cell? ⟨r, 1, none⟩ = some (.pointer (some ⟨p, 0, none⟩)) ∧ w'.cell? ⟨r, 2, none⟩ = some (.pointer (some ⟨y, 0, none⟩)) ∧ w'.cell? ⟨r, 3, none⟩ = some (.pointer (some ⟨x, 0, none⟩))) ∧ w'.cell? ⟨w.heap.size, 1, none⟩ = some (.int .i64 a.n) ∧ w'.cell? ⟨w.heap.size, 2, none⟩ = some (.int .i64 a.t)) := hide fun W F' G' hW n1 n2 hb2 => by
    refine (hW.diskX (st' := (Dm.start (Dm.pull s.d).2 a.n a.t).2) fun F1 hP => startR_any y F1 W (Dm.pull s.d).2 a.n a.t hP ha.2.1.2.1.2 ha.2.1.2.2.2 (fun f => Nat.le_trans (b2.1.1 f) (by omega)) (Nat.le_trans b2.1.2.1 (by omega))).mono ?_
    rintro E w' ⟨rfl, X, k1, o1, s1⟩
    have hlt := blk_lt hb2
    have hb3 := (o1.block w.heap.size hlt n2).trans hb2
    exact ⟨rfl, ⟨F', X, k1, n1, fun e => (s1 _ e).elim n2 (by omega), hb3⟩, k1.cells, blk_cell hb3 1 rfl, blk_cell hb3 2 rfl⟩
  have D5 : Hid (∀ W F' G', RP w0 r W ⟨(Dm.start (Dm.pull s.d).2 a.n a.t).2, s.l, s.bk⟩ ⟨(Dm.start (Dm.pull s.d).2 a.n a.t).2, s.l, s.bk⟩ p q x y F' G' → ¬ F' w.heap.size → ¬ G' w.heap.size → W.heap[w.heap.size]? = some (.cells #[.int .i64 a.k, .int .i64 a.n, .int .i64 a.t, .int .i64 a.c.e, .int .i64 a.c.n, a.c.v] 95 (0, 0)) → Calls Tryz.prog 43 #[.pointer (some ⟨r, 0, none⟩)] W fun E w' => E = .returned (.bool true) ∧ PD w0 r q y k w' ∧ (w'.cell? ⟨r, 0, none⟩ = some (.pointer (some ⟨q, 0, none⟩)) ∧ w'.cell? ⟨r, 2, none⟩ = some (.pointer (some ⟨y, 0, none⟩))) ∧ w'.cell? ⟨w.heap.size, 1, none⟩ = some (.int .i64 a.n) ∧ w'.cell? ⟨w.heap.size, 2, none⟩ = some (.int .i64 a.t)) := hide fun W F' G' hW n1 n2 hb2 => by
    refine (hW.opened b3 hin.len (by omega)).mono ?_
    rintro E w' ⟨rfl, ⟨s', p', x', F2, G2, k1, k2⟩, oo⟩
    have hrb := h.rb
    have hb3 := (oo.block w.heap.size (blk_lt hb2) (fun e => e.elim n1 fun e => e.elim n2 fun e => by have := blk_lt h.blk; omega)).trans hb2
    obtain ⟨m0, m1, m2, m3⟩ := k1.cells
    exact ⟨rfl, ⟨s', p', x', F2, G2, k1, k2⟩, ⟨m0, m2⟩, blk_cell hb3 1 rfl, blk_cell hb3 2 rfl⟩
  have P1 := hide (show RP w0 r w1 s s p q x y F G ∧ ¬ F w.heap.size ∧ ¬ G w.heap.size ∧ w1.heap[w.heap.size]? = some (.cells #[.int .i64 a.k, .int .i64 a.n, .int .i64 a.t, .int .i64 a.c.e, .int .i64 a.c.n, a.c.v] 95 (0, 0)) from ⟨h1, nF, nG, hB⟩)
  rw [hcv] at hw1 ⊢
  generalize hz1 : (Dm.pull s.d).1 = z1 at *
  generalize hz2 : (Dm.start (Dm.pull s.d).2 a.n a.t).1 = z2 at *
  clear h h1 hin hB hcv wb nF nG ha hz1 hz2 b2 b3
  go_enter Tryz.func44, Tryz.ntmps44
  go_wp2_with fail
  refine PK.out.mono ?_
  rintro E w2 ⟨rfl, rfl⟩
  clear PK
  go_wp2_with fail
  go_region_held3 (fun w' => (w'.cell? ⟨r, 0, none⟩ = some (.pointer (some ⟨q, 0, none⟩)) ∧ w'.cell? ⟨r, 2, none⟩ = some (.pointer (some ⟨y, 0, none⟩))) ∧ w'.cell? ⟨w.heap.size, 1, none⟩ = some (.int .i64 a.n) ∧ w'.cell? ⟨w.heap.size, 2, none⟩ = some (.int .i64 a.t)) (first | exact ⟨⟨a0, a2⟩, n1, n2⟩ | exact ⟨⟨d0, d2⟩, d4, d5⟩ | exact ⟨⟨e0, e2⟩, e4, e5⟩ | exact ⟨⟨i0, i2⟩, i4, i5⟩ | exact ⟨⟨j0, j2⟩, j4, j5⟩ | exact ⟨⟨t0, t2⟩, t4, t5⟩ | go_keep)
    (first
    | (go_at_call 100; refine (D1.out _ _ _ (P1.out.1.below ((Below.refl _ _).drew)) P1.out.2.1 P1.out.2.2.1 P1.out.2.2.2).mono ?_; rintro E w3 ⟨rfl, ⟨F3, G3, P3⟩, ⟨d0, d1, d2, d3⟩, d4, d5⟩; have P3 := hide P3)
    | (go_at_call 101; refine (D2.out _ _ _ P3.out.1 P3.out.2.1 P3.out.2.2.1 P3.out.2.2.2).mono ?_; rintro E w4 ⟨rfl, ⟨F4, G4, P4⟩, ⟨e0, e1, e2, e3⟩, e4, e5⟩; have P4 := hide P4)
    | (go_at_call 102; refine (D3.out _ _ _ P4.out.1 P4.out.2.1 P4.out.2.2.1 P4.out.2.2.2).mono ?_; rintro E w5 ⟨rfl, ⟨F5, G5, P5⟩, ⟨i0, i1, i2, i3⟩, i4, i5⟩; have P5 := hide P5)
    | (go_at_call 103; refine (D4.out _ _ _ P5.out.1 P5.out.2.1 P5.out.2.2.1 P5.out.2.2.2).mono ?_; rintro E w6 ⟨rfl, ⟨F6, G6, P6⟩, ⟨j0, j1, j2, j3⟩, j4, j5⟩; have P6 := hide P6)
    | (go_at_call 43; refine (D5.out _ _ _ P6.out.1 P6.out.2.1 P6.out.2.2.1 P6.out.2.2.2).mono ?_; rintro E w7 ⟨rfl, J, ⟨t0, t2⟩, t4, t5⟩; have J := hide J))
  all_goals
    go_wp2
    go_ret
    exact ⟨rfl, J.out⟩

end Go.Proofs.YthmecljkackmbaaGreat
