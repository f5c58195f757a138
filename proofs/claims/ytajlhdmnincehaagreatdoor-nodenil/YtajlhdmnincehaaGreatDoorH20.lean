/- Texts of one layer, one behind the other. -/
import Derived.Test.YtajlhdmnincehaaGreatDoorM4
import Derived.Test.YtajlhdmnincehaaGreatDoorH2
import Derived.Test.YtajlhdmnincehaaGreatDoorH16
import Derived.Test.YtajlhdmnincehaaGreatDoorH6
import Derived.Test.YtajlhdmnincehaaGreatDoorH18
import Derived.Test.YtajlhdmnincehaaGreatDoorH22
import Derived.Test.YtajlhdmnincehaaGreatDoorH25
import Derived.Test.YtajlhdmnincehaaGreatDoorH14
import Derived.Deep.RegionHeld3
import Derived.Test.YtajlhdmnincehaaGreatDoorH26
import Derived.Defers
import Derived.Test.YtajlhdmnincehaaGreatDoorH19
import Derived.Test.YtajlhdmnincehaaGreatDoorH27
import Derived.Test.YtajlhdmnincehaaGreatDoorH10
import Derived.Test.YtajlhdmnincehaaGreatDoorH28
/- The program's state, its own blocks (layer 21). -/
namespace Go.Proofs.YtajlhdmnincehaaGreatDoor
open Go.RowKit
set_option linter.unusedVariables false

/-- A state p over the disk q: its wal, its runs, its store. -/
structure POV (p q pw pr ps : Nat) (Gw Gr Gs : Nat → Prop) (w : World) (s : Rst.St) (lw : List Cm.Cv) (bw br : Bool) : Prop where
  blk : w.heap[p]? = some (.cells (stC q s.off s.p (.pointer (some ⟨pw, 0, none⟩)) s.l.length (.pointer (some ⟨pr, 0, none⟩)) (.pointer (some ⟨ps, 0, none⟩))) 107 (0, 0))
  wal : Wk pw q Gw w lw bw
  run : Rk pr q Gr w s.r br
  sto : Sk ps pr Gs w (s.l.drop (Cm.lastN 0 s.r).toNat)
  log : s.l = lw.take s.l.length
  live : s.off = false → lw = s.l ∧ bw = false ∧ br = false
  ok : Pm.Ok s.p
  fit : FitP s.p
  rest : Cm.Good 1 (Cm.lastN 0 s.r) (s.l.drop (Cm.lastN 0 s.r).toNat)
  le : Cm.lastN 0 s.r ≤ s.l.length
  np : ¬ Gw p ∧ ¬ Gr p ∧ ¬ Gs p
  wr : ∀ g, Gw g → ¬ Gr g
  ws : ∀ g, Gw g → ¬ Gs g
  rs : ∀ g, Gr g → ¬ Gs g

/-- Its blocks. -/
def PB (p : Nat) (Gw Gr Gs : Nat → Prop) (g : Nat) : Prop := g = p ∨ Gw g ∨ Gr g ∨ Gs g

/-- A state p over the disk q: its own blocks, and what they hold. The disk's content does not matter. -/
def PO (p q : Nat) (G : Nat → Prop) (w : World) (s : Rst.St) : Prop := ∃ pw pr ps Gw Gr Gs lw bw br, POV p q pw pr ps Gw Gr Gs w s lw bw br ∧ G = PB p Gw Gr Gs

section
variable {p q pw pr ps : Nat} {G Gw Gr Gs : Nat → Prop} {w w' : World} {s : Rst.St} {lw : List Cm.Cv} {bw br : Bool}

theorem POV.lt (h : POV p q pw pr ps Gw Gr Gs w s lw bw br) : ∀ g, PB p Gw Gr Gs g → g < w.heap.size := by
  rintro g (rfl | e | e | e)
  · exact blk_lt h.blk
  · exact h.wal.lt g e
  · exact h.run.lt g e
  · exact h.sto.lt g e

theorem POV.agree (h : POV p q pw pr ps Gw Gr Gs w s lw bw br) (ha : ∀ g, PB p Gw Gr Gs g → w'.heap[g]? = w.heap[g]?) : POV p q pw pr ps Gw Gr Gs w' s lw bw br :=
  ⟨(ha p (.inl rfl)).trans h.blk, h.wal.agree fun g e => ha g (.inr (.inl e)), h.run.agree fun g e => ha g (.inr (.inr (.inl e))), h.sto.agree fun g e => ha g (.inr (.inr (.inr e))), h.log, h.live, h.ok, h.fit, h.rest, h.le, h.np, h.wr, h.ws, h.rs⟩

theorem POV.below (h : POV p q pw pr ps Gw Gr Gs w s lw bw br) (hb : Below w.heap.size w w') : POV p q pw pr ps Gw Gr Gs w' s lw bw br := h.agree fun g hg => hb.block g (h.lt g hg)

theorem PO.lt (h : PO p q G w s) : ∀ g, G g → g < w.heap.size := by
  obtain ⟨pw, pr, ps, Gw, Gr, Gs, lw, bw, br, h, rfl⟩ := h
  exact h.lt
theorem PO.agree (h : PO p q G w s) (ha : ∀ g, G g → w'.heap[g]? = w.heap[g]?) (hs : w.heap.size ≤ w'.heap.size) : PO p q G w' s := by
  obtain ⟨pw, pr, ps, Gw, Gr, Gs, lw, bw, br, h, rfl⟩ := h
  exact ⟨pw, pr, ps, Gw, Gr, Gs, lw, bw, br, h.agree ha, rfl⟩
theorem PO.fit (h : PO p q G w s) : FitP s.p := by
  obtain ⟨pw, pr, ps, Gw, Gr, Gs, lw, bw, br, h, rfl⟩ := h
  exact h.fit

/-- The wal with its disk, the runs with it, the store with both. -/
theorem POV.ww {F : Nat → Prop} (h : POV p q pw pr ps Gw Gr Gs w s lw bw br) (hd : Pk q F w s.d) : WW pw q (fun g => F g ∨ Gw g) w ⟨s.d, lw, bw⟩ := ⟨F, Gw, hd, h.wal, rfl⟩
theorem POV.rw {F : Nat → Prop} (h : POV p q pw pr ps Gw Gr Gs w s lw bw br) (hd : Pk q F w s.d) : RW pr q (fun g => F g ∨ Gr g) w ⟨s.d, s.r, br⟩ := ⟨F, Gr, hd, h.run, rfl⟩
theorem POV.good (h : POV p q pw pr ps Gw Gr Gs w s lw bw br) : Rl.Good 0 s.r := by
  obtain ⟨v, rs, h1, _⟩ := h.run
  exact h1.log.good
theorem POV.sw {F : Nat → Prop} (h : POV p q pw pr ps Gw Gr Gs w s lw bw br) (hd : Pk q F w s.d) (hG : ∀ g, PB p Gw Gr Gs g → ¬ F g) : SW ps pr q (fun g => (F g ∨ Gr g) ∨ Gs g) w ⟨⟨s.d, s.r, br⟩, s.l.drop (Cm.lastN 0 s.r).toNat⟩ :=
  ⟨fun g => F g ∨ Gr g, Gs, h.rw hd, h.sto, fun g e => by
    rintro (k | k)
    · exact hG g (.inr (.inr (.inr e))) k
    · exact h.rs g k e, ⟨h.good, h.rest⟩, rfl⟩
end

end Go.Proofs.YtajlhdmnincehaaGreatDoor

/- The program's state with its disk (layer 21). -/
namespace Go.Proofs.YtajlhdmnincehaaGreatDoor
open Go.RowKit
set_option linter.unusedVariables false

/-- A state p over the disk q. -/
def PS (p q : Nat) (F : Nat → Prop) (w : World) (s : Rst.St) : Prop := ∃ F1 G, Pk q F1 w s.d ∧ PO p q G w s ∧ (∀ g, G g → ¬ F1 g) ∧ Mst w ∧ F = fun g => F1 g ∨ G g

def PSS (p q : Nat) (F : Nat → Prop) (w w' : World) (s' : Rst.St) : Prop := ∃ F', PS p q F' w' s' ∧ Out F w w' ∧ ∀ g, F' g → F g ∨ w.heap.size ≤ g

/-- What the calls ask of a state's size. -/
def Rok (s : Rst.St) : Prop := Big 50000000 500000 s.d ∧ s.l.length ≤ 2000

section
variable {p q : Nat} {F G : Nat → Prop} {w w' : World} {s : Rst.St}

theorem PS.lt (h : PS p q F w s) : ∀ g, F g → g < w.heap.size := by
  obtain ⟨F1, G, h1, h2, _, _, rfl⟩ := h
  rintro g (e | e)
  · exact h1.lt g e
  · exact h2.lt g e
theorem PS.agree (h : PS p q F w s) (ha : ∀ g, F g → w'.heap[g]? = w.heap[g]?) (hs : w.heap.size ≤ w'.heap.size) (hm : Mst w') : PS p q F w' s := by
  obtain ⟨F1, G, h1, h2, h3, _, rfl⟩ := h
  exact ⟨F1, G, h1.agree fun g hg => ha g (.inl hg), h2.agree (fun g hg => ha g (.inr hg)) hs, h3, hm, rfl⟩
theorem PS.mst (h : PS p q F w s) : Mst w := by
  obtain ⟨_, _, _, _, _, h, _⟩ := h
  exact h
theorem PS.fit (h : PS p q F w s) : FitP s.p := by
  obtain ⟨_, _, _, h, _⟩ := h
  exact h.fit
/-- The variable stays where its block is not written. -/
theorem mst_out (hm : Mst w) (ho : Out F w w') (h0 : ¬ F 0) : Mst w' := by
  have e : ∀ j, w'.cell? ⟨0, j, none⟩ = w.cell? ⟨0, j, none⟩ := fun j => by
    have := ho.block 0 hm.pos h0
    simp [World.cell?, this]
  exact ⟨(e 0).trans hm.c0, (e 1).trans hm.c1, (e 2).trans hm.c2, (e 3).trans hm.c3, (e 4).trans hm.c4, (e 5).trans hm.c5⟩
end

end Go.Proofs.YtajlhdmnincehaaGreatDoor

/- The program's restart (layer 21): what a state tells. -/
namespace Go.Proofs.YtajlhdmnincehaaGreatDoor
open Go.RowKit
set_option linter.unusedVariables false


theorem good_take {l : List Cm.Cv} (h : Cm.Good 0 0 l) (n : Nat) : Cm.Good 0 0 (l.take n) := by
  rw [← List.take_append_drop n l] at h
  exact ((Cm.good_app _ _ _ _).1 h).1

set_option maxHeartbeats 1000000 in
theorem qpage_any (p q : Nat) (F : Nat → Prop) (w : World) (s : Rst.St) (h : PS p q F w s) (hR : Rok s) : Calls Tryz.prog 26 #[.pointer (some ⟨p, 0, none⟩)] w fun E w' => E = .returned (vp s.p) ∧ Below w.heap.size w w' := by
  obtain ⟨F1, G, h1, ⟨pw, pr, ps, Gw, Gr, Gs, lw, bw, br, V, rfl⟩, h3, hm, rfl⟩ := h
  have hb := V.blk
  have hpl := blk_lt hb
  obtain ⟨w1, hw1, s1, b1, P1⟩ := blk_step w #[.int .i64 0, .int .u8 0, .int .i64 0, .int .u8 0, .int .i64 0, .int .i64 0] 60
  obtain ⟨c0, c1, c2, c3, c4, c5, c6, c7, c8, c9, c10, c11, c12⟩ := sta_of ((b1.block p hpl).trans hb)
  have HM := hide (pmade_any p q w1 c0)
  obtain ⟨V', hV', bV', gV', ⟨a0, a1, a2, a3, a4, a5⟩, fr, ⟨z0, z1, z2, z3, z4, z5⟩⟩ := put6 P1 (.int .i64 s.p.e) (.int .u8 s.p.r) (.int .i64 s.p.a) (.int .u8 s.p.p) (.int .i64 s.p.f) (.int .i64 s.p.b)
  have f0 := fr 0; have f1 := fr 1; have f2 := fr 2; have f3 := fr 3; have f4 := fr 4; have f5 := fr 5
  have BV := hide (below_put b1 gV' (Nat.le_refl _) (by omega))
  clear V h1 h3 hm hb b1 P1 bV' gV' fr s1 hpl hR
  go_enter Tryz.func26, Tryz.ntmps26
  go_wp2_with fail
  refine HM.out.mono ?_
  rintro E w2 ⟨rfl, rfl⟩
  clear HM
  go_wp2
  refine bodyPost_ret (v := vp s.p) (by simp [results, Tryz.results26, go_sem, z0, z1, z2, z3, z4, z5, vp]) rfl ?_
  exact ⟨rfl, BV.out⟩

theorem qend_any (p q : Nat) (F : Nat → Prop) (w : World) (s : Rst.St) (h : PS p q F w s) (hR : Rok s) : Calls Tryz.prog 35 #[.pointer (some ⟨p, 0, none⟩)] w fun E w' => E = .returned (.int .i64 s.l.length) ∧ Below w.heap.size w w' := by
  obtain ⟨F1, G, h1, ⟨pw, pr, ps, Gw, Gr, Gs, lw, bw, br, V, rfl⟩, h3, hm, rfl⟩ := h
  obtain ⟨c0, c1, c2, c3, c4, c5, c6, c7, c8, c9, c10, c11, c12⟩ := sta_of V.blk
  have HM := hide (pmade_any p q w c0)
  clear V h1 h3 hm hR
  generalize (s.l.length : Int) = n at *
  go_enter Tryz.func35, Tryz.ntmps35
  go_wp2_with fail
  refine HM.out.mono ?_
  rintro E w2 ⟨rfl, rfl⟩
  clear HM
  go_wp2
  go_ret
  exact ⟨rfl, Below.refl _ _⟩

theorem qget_any (p q : Nat) (F : Nat → Prop) (w : World) (s : Rst.St) (h : PS p q F w s) (hR : Rok s) (k : ByteArray) (hk : k.size ≤ 140737488355328) : Calls Tryz.prog 27 #[.pointer (some ⟨p, 0, none⟩), .string k] w fun E w' => E = .returned (.tuple #[.string (gv (Sto.fold (Rst.sto s)) k), .bool (gp (Sto.fold (Rst.sto s)) k)]) ∧ Below w.heap.size w w' := by
  obtain ⟨F1, G, h1, ⟨pw, pr, ps, Gw, Gr, Gs, lw, bw, br, V, rfl⟩, h3, hm, rfl⟩ := h
  obtain ⟨c0, c1, c2, c3, c4, c5, c6, c7, c8, c9, c10, c11, c12⟩ := sta_of V.blk
  have HM := hide (pmade_any p q w c0)
  have HG := hide (sget_any ps pr q _ w _ k (V.sw h1 h3) hk)
  have e : Sto.fold ⟨⟨s.d, s.r, br⟩, s.l.drop (Cm.lastN 0 s.r).toNat⟩ = Sto.fold (Rst.sto s) := rfl
  rw [e] at HG
  generalize Sto.fold (Rst.sto s) = t at *
  clear V h1 h3 hm hR e
  go_enter Tryz.func27, Tryz.ntmps27
  go_wp2_with fail
  refine HM.out.mono ?_
  rintro E w2 ⟨rfl, rfl⟩
  clear HM
  go_wp2_with fail
  refine HG.out.mono ?_
  rintro E w2 ⟨rfl, b2⟩
  have B2 := hide b2
  clear HG b2
  go_wp2
  go_ret2
  exact ⟨rfl, B2.out⟩


end Go.Proofs.YtajlhdmnincehaaGreatDoor

/- The program's node (layer 23): its cells; what refuses; a call of one that is up. -/
namespace Go.Proofs.YtajlhdmnincehaaGreatDoor
open Go.RowKit
set_option linter.unusedVariables false

/-- A node that is up: its number, its leash, its acked position, what it knows, its hello, its state. -/
structure Ns where
  u : Int
  t : Int
  a : Int
  k : Int
  m : Mw
  s : Rst.St

/-- Its cells. -/
def ndC (q p : Nat) (x : Ns) : Array Value := #[.int .i64 x.u, .int .i64 x.t, .pointer (some ⟨q, 0, none⟩), .pointer (some ⟨p, 0, none⟩), .int .i64 x.a, .int .i64 x.k, .int .i64 x.m.k, .int .i64 x.m.e, .int .u8 x.m.r, .int .i64 x.m.n, x.m.vs, .int .i64 x.m.f, .int .i64 x.m.p, x.m.vc]

/-- A node n over the disk q with the state p. -/
structure Nd (n p q : Nat) (F : Nat → Prop) (w : World) (x : Ns) : Prop where
  blk : w.heap[n]? = some (.cells (ndC q p x) 37 (0, 0))
  st : PS p q F w x.s
  ne : ¬ F n

/-- What a call leaves. -/
def NdS (n p q : Nat) (F : Nat → Prop) (w w' : World) (x : Ns) : Prop := ∃ F', Nd n p q F' w' x ∧ Out (fun g => F g ∨ g = n) w w' ∧ ∀ g, F' g → F g ∨ w.heap.size ≤ g

section
variable {n p q : Nat} {F : Nat → Prop} {w w' w'' : World} {x y : Ns}

theorem Nd.lt (h : Nd n p q F w x) : ∀ g, F g ∨ g = n → g < w.heap.size := by
  rintro g (e | rfl)
  · exact h.st.lt g e
  · exact blk_lt h.blk
theorem Nd.agree (h : Nd n p q F w x) (ha : ∀ g, F g ∨ g = n → w'.heap[g]? = w.heap[g]?) (hs : w.heap.size ≤ w'.heap.size) (hm : Mst w') : Nd n p q F w' x :=
  ⟨(ha n (.inr rfl)).trans h.blk, h.st.agree (fun g e => ha g (.inl e)) hs hm, h.ne⟩
theorem Nd.below (h : Nd n p q F w x) (hb : Below w.heap.size w w') : Nd n p q F w' x :=
  h.agree (fun g e => hb.block g (h.lt g e)) hb.size (h.st.mst.below hb)
theorem NdS.same (h : Nd n p q F w x) (hb : Below w.heap.size w w') : NdS n p q F w w' x :=
  ⟨F, h.below hb, Out.of_below hb, fun g e => .inl e⟩
/-- A call of its state. -/
theorem Nd.step {s' : Rst.St} (h : Nd n p q F w x) (k : PSS p q F w w' s') : NdS n p q F w w' ⟨x.u, x.t, x.a, x.k, x.m, s'⟩ := by
  obtain ⟨F', k1, k2, k3⟩ := k
  refine ⟨F', ⟨(k2.block n (h.lt n (.inr rfl)) h.ne).trans h.blk, k1, fun e => ?_⟩, k2.mono fun g e => .inl (.inl e), k3⟩
  rcases k3 n e with e | e
  · exact h.ne e
  · have := h.lt n (.inr rfl); omega
theorem NdS.join {F1 : Nat → Prop} (h2 : Out (fun g => F g ∨ g = n) w w') (h3 : ∀ g, F1 g → F g ∨ w.heap.size ≤ g) (k : NdS n p q F1 w' w'' y) : NdS n p q F w w'' y := by
  obtain ⟨F2, k1, k2, k3⟩ := k
  have hs := h2.size
  refine ⟨F2, k1, h2.trans k2 ?_, fun g e => ?_⟩
  · rintro g (e | e)
    · rcases h3 g e with e | e
      · exact .inl (.inl e)
      · exact .inr e
    · exact .inl (.inr e)
  · rcases k3 g e with e | e
    · exact h3 g e
    · exact .inr (by omega)
/-- The same, W being made ahead of it behind w. -/
def NdQ (n p q : Nat) (F : Nat → Prop) (w W w' : World) (x : Ns) : Prop := ∃ F', Nd n p q F' w' x ∧ Out (fun g => F g ∨ g = n) w w' ∧ ∀ g, F' g → F g ∨ W.heap.size ≤ g

theorem NdS.toQ {W : World} (hb : Below w.heap.size w W) (k : NdS n p q F W w' y) : NdQ n p q F w W w' y := by
  obtain ⟨F', k1, k2, k3⟩ := k
  exact ⟨F', k1, (Out.of_below hb (F := fun g => F g ∨ g = n)).trans k2 fun g e => .inl e, k3⟩
theorem NdQ.toS {W : World} (hb : w.heap.size ≤ W.heap.size) (k : NdQ n p q F w W w' y) : NdS n p q F w w' y := by
  obtain ⟨F', k1, k2, k3⟩ := k
  refine ⟨F', k1, k2, fun g e => ?_⟩
  rcases k3 g e with e | e
  · exact .inl e
  · exact .inr (by omega)
theorem NdS.ahead {W : World} (hb : Below w.heap.size w W) (k : NdS n p q F W w' y) : NdS n p q F w w' y := (k.toQ hb).toS hb.size
/-- A box of a call's own is written. -/
theorem NdQ.put {W : World} {B : Nat} (h : ∀ g, F g ∨ g = n → g < w.heap.size) (hw : 0 < w.heap.size) (k : NdQ n p q F w W w' y) (hB : w.heap.size ≤ B ∧ B < W.heap.size) (g : w'.grownBy w'' (some B)) : NdQ n p q F w W w'' y := by
  obtain ⟨F', k1, k2, k3⟩ := k
  have nB : ∀ g, F' g ∨ g = n → g ≠ B := fun g e => by
    rcases e with e | e
    · rcases k3 g e with e | e
      · have := h g (.inl e); omega
      · omega
    · have := h g (.inr e); omega
  have oo : Out (fun g => g = B) w' w'' := Out.of_grown g fun g e => (Option.some.inj e).symm
  refine ⟨F', k1.agree (fun g' e => g.block g' (k1.lt g' e) fun c => nB g' e (Option.some.inj c)) g.size (mst_out k1.st.mst oo fun e => by omega), k2.trans oo fun g e => .inr (by omega), k3⟩
end

/-- Cells of a node's block. -/
structure NdA (n q p : Nat) (w : World) (x : Ns) : Prop where
  c0 : w.cell? ⟨n, 0, none⟩ = some (.int .i64 x.u)
  c1 : w.cell? ⟨n, 1, none⟩ = some (.int .i64 x.t)
  c2 : w.cell? ⟨n, 2, none⟩ = some (.pointer (some ⟨q, 0, none⟩))
  c3 : w.cell? ⟨n, 3, none⟩ = some (.pointer (some ⟨p, 0, none⟩))
  c4 : w.cell? ⟨n, 4, none⟩ = some (.int .i64 x.a)
  c5 : w.cell? ⟨n, 5, none⟩ = some (.int .i64 x.k)

theorem Nd.cs {n p q : Nat} {F : Nat → Prop} {w : World} {x : Ns} (h : Nd n p q F w x) : NdA n q p w x :=
  ⟨blk_cell h.blk 0 rfl, blk_cell h.blk 1 rfl, blk_cell h.blk 2 rfl, blk_cell h.blk 3 rfl, blk_cell h.blk 4 rfl, blk_cell h.blk 5 rfl⟩


theorem nref_any (n p q : Nat) (w : World) (h2 : w.cell? ⟨n, 2, none⟩ = some (.pointer (some ⟨q, 0, none⟩))) (h3 : w.cell? ⟨n, 3, none⟩ = some (.pointer (some ⟨p, 0, none⟩))) :
    Calls Tryz.prog 37 #[.pointer (some ⟨n, 0, none⟩)] w fun E w' => E = .returned (.int .i64 0) ∧ w = w' := by
  go_enter Tryz.func37, Tryz.ntmps37
  go_wp2
  go_ret
  exact ⟨rfl, rfl⟩

theorem nup_any (n p q : Nat) (w : World) (h2 : w.cell? ⟨n, 2, none⟩ = some (.pointer (some ⟨q, 0, none⟩))) (h3 : w.cell? ⟨n, 3, none⟩ = some (.pointer (some ⟨p, 0, none⟩))) :
    Calls Tryz.prog 13 #[.pointer (some ⟨n, 0, none⟩)] w fun E w' => E = .returned (.bool true) ∧ w = w' := by
  have R := hide (nref_any n p q w h2 h3)
  go_enter Tryz.func13, Tryz.ntmps13
  go_wp2_with fail
  refine R.out.mono ?_
  rintro E w1 ⟨rfl, rfl⟩
  go_wp2
  go_ret
  exact ⟨rfl, rfl⟩

/-- What is put off: nothing, where the disk was on. -/
theorem ncall1_d (B A : Nat) (e : Int) (he : (e == 6) = false) (w : World) (hc : w.cell? ⟨B, 0, none⟩ = some (.int .i64 e)) (u : FrameMode) :
    CallsD Tryz.prog 48 #[.pointer (some ⟨B, 0, none⟩), .pointer (some ⟨A, 0, none⟩)] u w fun E u' w' => u' = u ∧ (E = .returned (.tuple #[]) ∧ w = w') := by
  go_enter_d Tryz.func48, Tryz.ntmps48
  go_wp2
  go_end0
  exact ⟨rfl, rfl⟩

/-- A call of a node that is up, its disk on. -/
theorem ncall_any (n p q : Nat) (F : Nat → Prop) (w : World) (x : Ns) (h : Nd n p q F w x) (hon : x.s.d.on = true) (f : FuncId) (first cap xs : Array Value) (eg : ∀ args w, (callFunc f args).run Tryz.prog w = .ok (.enter f args) w) (ha : first ++ cap = xs) (Q : Int → World → World → Prop)
    (hf : ∀ W, Below w.heap.size w W → Calls Tryz.prog f xs W fun E w' => ∃ e, E = .returned (.int .i64 e) ∧ (e == 6) = false ∧ (∀ g, w.heap.size ≤ g → g < W.heap.size → w'.heap[g]? = W.heap[g]?) ∧ W.heap.size ≤ w'.heap.size ∧ Q e W w') :
    Calls Tryz.prog 21 #[.pointer (some ⟨n, 0, none⟩), .func (.func f) first cap] w fun E w' => ∃ e, E = .returned (.int .i64 e) ∧ ∃ W W1 B, Below w.heap.size w W ∧ (w.heap.size ≤ B ∧ B < W.heap.size) ∧ W1.grownBy w' (some B) ∧ Q e W W1 := by
  have hmf : ∀ (fn : Fn) (first cap : Array Value) (w : World), (Instr.makeFunc fn first cap).run Tryz.prog w = .ok (.func fn first cap) w := fun _ _ _ _ => rfl
  obtain ⟨w1, hw1, s1, b1, P1⟩ := blk_step w #[.pointer (some ⟨n, 0, none⟩)] 31
  obtain ⟨w2, hw2, s2, b2, P2⟩ := blk_step w1 #[.int .i64 0] 39
  have b12 : Below w.heap.size w w2 := b1.trans (b2.mono (by omega))
  rw [s1] at P2
  have P1' := (b2.block w.heap.size (by omega)).trans P1
  have h2 := h.below b12
  obtain ⟨c0, c1, c2, c3, c4, c5⟩ := h2.cs
  have k0 : w2.cell? ⟨w.heap.size, 0, none⟩ = some (.pointer (some ⟨n, 0, none⟩)) := blk_cell P1' 0 rfl
  have RF := hide (nref_any n p q w2 c2 c3)
  obtain ⟨F1, G, d1, d2, d3, d4, rfl⟩ := h2.st
  have ON := hide (on_any q F1 w2 x.s.d d1)
  rw [hon] at ON
  have HF := hide (hf w2 b12)
  rw [← ha] at HF
  have PP := hide (And.intro P2 (And.intro b12 s2))
  clear h h2 d1 d2 d3 d4 hon ha hf P1 P2 P1' b1 b2 b12 s2
  go_enter_defers Tryz.func21, Tryz.ntmps21
  go_wp2_with fail
  refine RF.out.mono ?_
  rintro E w3 ⟨rfl, rfl⟩
  clear RF
  go_wp2_with fail
  refine ON.out.mono ?_
  rintro E w3 ⟨rfl, rfl⟩
  clear ON
  go_wp2_with fail
  refine HF.out.mono ?_
  rintro E w4 ⟨e, rfl, he, K, sz4, hQ⟩
  obtain ⟨P2, b12, s2⟩ := PP.out
  have P4 := (K (w.heap.size + 1) (by omega) (by omega)).trans P2
  obtain ⟨V, hV, bV, gV, fV⟩ := put_c P4 0 (.int .i64 e)
  have e4 : w4.cell? ⟨w.heap.size + 1, 0, none⟩ = some (.int .i64 0) := blk_cell P4 0 rfl
  have eV : V.cell? ⟨w.heap.size + 1, 0, none⟩ = some (.int .i64 e) := blk_cell bV 0 rfl
  have DD := hide (ncall1_d (w.heap.size + 1) w.heap.size e he V eV .returning)
  have RES : Hid (∃ W W1 B, Below w.heap.size w W ∧ (w.heap.size ≤ B ∧ B < W.heap.size) ∧ W1.grownBy V (some B) ∧ Q e W W1) := hide ⟨w2, w4, w.heap.size + 1, b12, by omega, gV, hQ⟩
  clear HF PP K hQ P2 b12 s2 P4 bV gV
  go_wp2
  refine leaves_cons (f := 48) (args := #[.pointer (some ⟨w.heap.size + 1, 0, none⟩), .pointer (some ⟨w.heap.size, 0, none⟩)]) (by simp) (by simp [go_sem]) ?_
  refine DD.out.mono ?_
  rintro E u' w5 ⟨rfl, rfl, rfl⟩
  refine ⟨_, by simp [results, Tryz.results21, go_sem, eV], e, rfl, RES.out⟩

end Go.Proofs.YtajlhdmnincehaaGreatDoor

/- The program's node (layer 23): what it tells of itself. -/
namespace Go.Proofs.YtajlhdmnincehaaGreatDoor
open Go.RowKit
set_option linter.unusedVariables false

set_option maxHeartbeats 1000000 in
theorem npage_any (n p q : Nat) (F : Nat → Prop) (w : World) (x : Ns) (h : Nd n p q F w x) (hR : Rok x.s) :
    Calls Tryz.prog 18 #[.pointer (some ⟨n, 0, none⟩)] w fun E w' => E = .returned (vp x.s.p) ∧ Below w.heap.size w w' := by
  obtain ⟨w1, hw1, s1, b1, P1⟩ := blk_step w #[.int .i64 0, .int .u8 0, .int .i64 0, .int .u8 0, .int .i64 0, .int .i64 0] 60
  have h1 := h.below b1
  obtain ⟨c0, c1, c2, c3, c4, c5⟩ := h1.cs
  have UP := hide (nup_any n p q w1 c2 c3)
  have PG := hide (qpage_any p q F w1 x.s h1.st hR)
  have PP := hide (And.intro P1 b1)
  generalize x.s.p = y at *
  have HV : vp y = .agg #[.int .i64 y.e, .int .u8 y.r, .int .i64 y.a, .int .u8 y.p, .int .i64 y.f, .int .i64 y.b] := rfl
  rw [HV] at PG
  clear h h1 hR P1 b1 HV
  go_enter Tryz.func18, Tryz.ntmps18
  go_wp2_with fail
  refine UP.out.mono ?_
  rintro E w2 ⟨rfl, rfl⟩
  clear UP
  go_wp2_with fail
  refine PG.out.mono ?_
  rintro E w2 ⟨rfl, b2⟩
  obtain ⟨P1, b1⟩ := PP.out
  obtain ⟨V', hV', bV', gV', ⟨a0, a1, a2, a3, a4, a5⟩, fr, ⟨z0, z1, z2, z3, z4, z5⟩⟩ := put6 ((b2.block w.heap.size (by omega)).trans P1) (.int .i64 y.e) (.int .u8 y.r) (.int .i64 y.a) (.int .u8 y.p) (.int .i64 y.f) (.int .i64 y.b)
  have f0 := fr 0; have f1 := fr 1; have f2 := fr 2; have f3 := fr 3; have f4 := fr 4; have f5 := fr 5
  have z2' := b2.size
  have BV := hide (below_put (b1.trans (b2.mono (by omega))) gV' (Nat.le_refl _) (by omega))
  clear PG PP P1 b1 b2 bV' gV' fr z2' s1
  go_wp2
  refine bodyPost_ret (v := vp y) (by simp [results, Tryz.results18, go_sem, z0, z1, z2, z3, z4, z5, vp]) rfl ?_
  exact ⟨rfl, BV.out⟩


/-- A primary's. -/
theorem nout_any (n p q : Nat) (F : Nat → Prop) (w : World) (x : Ns) (h : Nd n p q F w x) (hR : Rok x.s) (hr : x.s.p.r = 1) :
    Calls Tryz.prog 14 #[.pointer (some ⟨n, 0, none⟩)] w fun E w' => E = .returned (.int .i64 (Lea.oV x.s.l.length x.a)) ∧ Below w.heap.size w w' := by
  have hfd := fun (a b c d e f : Int) (w : World) => show (Instr.field 60 (.agg #[.int .i64 a, .int .u8 b, .int .i64 c, .int .u8 d, .int .i64 e, .int .i64 f]) 1).run Tryz.prog w = .ok (.int .u8 b) w by kernel_rfl
  have PG := hide (npage_any n p q F w x h hR)
  have HV : vp x.s.p = .agg #[.int .i64 x.s.p.e, .int .u8 1, .int .i64 x.s.p.a, .int .u8 x.s.p.p, .int .i64 x.s.p.f, .int .i64 x.s.p.b] := by rw [← hr]; rfl
  rw [HV] at PG
  have HH := hide (And.intro h hR)
  have EN : Hid (∀ W, Below w.heap.size w W → Calls Tryz.prog 35 #[.pointer (some ⟨p, 0, none⟩)] W fun E w' => E = .returned (.int .i64 x.s.l.length) ∧ Below w.heap.size w w') := hide fun W hW => by
    refine (qend_any p q F W x.s (h.below hW).st hR).mono ?_
    rintro E w' ⟨rfl, b⟩
    exact ⟨rfl, hW.trans (b.mono hW.size)⟩
  have CE : Hid (∀ W, Below w.heap.size w W → W.cell? ⟨n, 3, none⟩ = some (.pointer (some ⟨p, 0, none⟩)) ∧ W.cell? ⟨n, 4, none⟩ = some (.int .i64 x.a)) := hide fun W hW => ⟨(h.below hW).cs.c3, (h.below hW).cs.c4⟩
  have LO := hide (fun W => lout_any x.s.l.length x.a W)
  generalize (x.s.l.length : Int) = en at *
  obtain ⟨xa, hxa⟩ : ∃ y, x.a = y := ⟨_, rfl⟩
  rw [hxa] at CE LO ⊢
  generalize Lea.oV en xa = r at *
  generalize Lea.oE en xa = re at *
  clear h hR hr HV HH hxa
  go_enter Tryz.func14, Tryz.ntmps14
  go_wp2_with fail
  refine PG.out.mono ?_
  rintro E w2 ⟨rfl, b2⟩
  obtain ⟨c3, c4⟩ := CE.out w2 b2
  have EN2 : Hid (Calls Tryz.prog 35 #[.pointer (some ⟨p, 0, none⟩)] w2.drew fun E w' => E = .returned (.int .i64 en) ∧ Below w.heap.size w w') := hide (EN.out _ b2.drew)
  have B2 := hide b2
  clear PG EN b2
  go_wp2_with fail
  go_region_held3 (fun w' => w'.cell? ⟨n, 3, none⟩ = some (.pointer (some ⟨p, 0, none⟩)) ∧ w'.cell? ⟨n, 4, none⟩ = some (.int .i64 xa)) (first | exact ⟨c3, c4⟩ | exact ⟨d3, d4⟩ | go_keep)
    (first
    | (go_at_call 41; have z := B3; refine (LO.out _).mono ?_; rintro E w4 ⟨rfl, rfl⟩)
    | (go_at_call 35; refine EN2.out.mono ?_; rintro E w3 ⟨rfl, b3⟩; obtain ⟨d3, d4⟩ := CE.out w3 b3; have B3 := hide b3; clear b3))
  go_wp2
  go_ret
  exact ⟨rfl, B3.out⟩

/-- It knows nothing of its replica. -/
theorem nknown_no (n p q : Nat) (F : Nat → Prop) (w : World) (x : Ns) (h : Nd n p q F w x) (hk : x.k = -1) :
    Calls Tryz.prog 9 #[.pointer (some ⟨n, 0, none⟩)] w fun E w' => E = .returned (.tuple #[.int .i64 0, .bool false]) ∧ w = w' := by
  obtain ⟨c0, c1, c2, c3, c4, c5⟩ := h.cs
  have UP := hide (nup_any n p q w c2 c3)
  rw [hk] at c5
  clear h hk
  go_enter Tryz.func9, Tryz.ntmps9
  go_wp2_with fail
  refine UP.out.mono ?_
  rintro E w2 ⟨rfl, rfl⟩
  clear UP
  go_wp2
  go_ret2
  exact ⟨rfl, rfl⟩

end Go.Proofs.YtajlhdmnincehaaGreatDoor

/- The program's restart (layer 21): what a call leaves of a state; Set. -/
namespace Go.Proofs.YtajlhdmnincehaaGreatDoor
open Go.RowKit
set_option linter.unusedVariables false

section
variable {p q : Nat} {F : Nat → Prop} {w W : World} {s s1 : Rst.St}

theorem PS.at (h : PS p q F w s) : F p ∧ ∃ vw vr vs, w.heap[p]? = some (.cells (stC q s.off s.p vw s.l.length vr vs) 107 (0, 0)) := by
  obtain ⟨F1, G, h1, ⟨pw, pr, ps, Gw, Gr, Gs, lw, bw, br, V, rfl⟩, h3, hm, rfl⟩ := h
  exact ⟨.inr (.inl rfl), _, _, _, V.blk⟩

theorem PS.below (h : PS p q F w s) (hb : Below w.heap.size w W) : PS p q F W s := h.agree (fun g hg => hb.block g (h.lt g hg)) hb.size (h.mst.below hb)

theorem PSS.same (h : PS p q F w s) (hb : Below w.heap.size w W) : PSS p q F w W s := ⟨F, h.below hb, Out.of_below hb, fun g hg => .inl hg⟩

theorem mst_ne {cs : Array Value} {t : TypeId} {fr : Nat × Nat} {a : Option Addr} (hm : Mst w) (hb : w.heap[p]? = some (.cells cs t fr)) (hc : cs[0]? = some (.pointer a)) : p ≠ 0 := by
  rintro rfl
  have := blk_cell hb 0 hc
  rw [hm.c0] at this
  cases this

/-- The state is broken. -/
theorem PSS.brk (h : PSS p q F w W s1) : PSS p q F w (W.setCell ⟨p, 1, none⟩ (.bool true)) (Rst.brk s1) := by
  obtain ⟨F', ⟨F1, G, h1, ⟨pw, pr, ps, Gw, Gr, Gs, lw, bw, br, V, rfl⟩, h3, hm, rfl⟩, ho, hn⟩ := h
  have hp : p ≠ 0 := mst_ne hm V.blk rfl
  have oZ : Out (fun g => g = p) W (W.setCell ⟨p, 1, none⟩ (.bool true)) := Out.of_grown (grown_setCell W ⟨p, 1, none⟩ (.bool true)) fun i hi => by simpa using hi.symm
  have pz : (W.setCell ⟨p, 1, none⟩ (.bool true)).heap[p]? = some (.cells (stC q true s1.p (.pointer (some ⟨pw, 0, none⟩)) s1.l.length (.pointer (some ⟨pr, 0, none⟩)) (.pointer (some ⟨ps, 0, none⟩))) 107 (0, 0)) := set_cells V.blk 1 (.bool true)
  generalize W.setCell ⟨p, 1, none⟩ (.bool true) = Z at *
  have hF1 : ¬ F1 p := h3 p (.inl rfl)
  refine ⟨fun g => F1 g ∨ PB p Gw Gr Gs g, ⟨F1, PB p Gw Gr Gs, h1.agree fun g hg => oZ.block g (h1.lt g hg) fun e => hF1 (e ▸ hg), ⟨pw, pr, ps, Gw, Gr, Gs, lw, bw, br, ⟨pz, V.wal.out oZ fun g hg e => V.np.1 (e ▸ hg), V.run.out oZ fun g hg e => V.np.2.1 (e ▸ hg), V.sto.out oZ fun g hg e => V.np.2.2 (e ▸ hg), V.log, (fun e => absurd e (by simp [Rst.brk])), V.ok, V.fit, V.rest, V.le, V.np, V.wr, V.ws, V.rs⟩, rfl⟩, h3, mst_out hm oZ fun e => hp e.symm, rfl⟩, ho.trans oZ fun g hg => ?_, hn⟩
  rw [hg]
  exact hn p (.inr (.inl rfl))



/-- What the steps of a call leave, ahead of its end: the answer r. -/
def QS (p q : Nat) (F : Nat → Prop) (w : World) (r : Int × Rst.St) (e : Int) (W : World) : Prop := e = r.1 ∧ (e ≠ 6 → PSS p q F w W r.2) ∧ (e = 6 → PSS p q F w (W.setCell ⟨p, 1, none⟩ (.bool true)) r.2 ∧ ∃ cs b, W.heap[p]? = some (.cells cs 107 (0, 0)) ∧ cs[1]? = some (.bool b))

theorem QS.no {r : Int × Rst.St} {e : Int} (h1 : r = (e, s1)) (h6 : e ≠ 6) (h : PSS p q F w W s1) : QS p q F w r e W := by
  subst h1
  exact ⟨rfl, fun _ => h, fun k => absurd k h6⟩
theorem QS.six {r : Int × Rst.St} (h1 : r = (6, Rst.brk s1)) (h : PSS p q F w W s1) : QS p q F w r 6 W := by
  subst h1
  refine ⟨rfl, fun k => absurd rfl k, fun _ => ⟨h.brk, ?_⟩⟩
  obtain ⟨F', h, _⟩ := h
  obtain ⟨_, vw, vr, vs, hb⟩ := h.at
  exact ⟨_, _, hb, rfl⟩

theorem qs_call {r : Int × Rst.St} {B n : Nat} {fs : List Value} (hn : fs.length = n) (hl : n ≤ 100) (hB : W.heap[B]? = some (.cells fs.toArray 172 (0, 0))) (h : Run B (QS p q F w r) fs W) :
    Calls Tryz.prog 92 #[.pointer (some ⟨p, 0, none⟩), .slice (some ⟨B, 0, none⟩) n n] W fun E w' => E = .returned (.int .i64 r.1) ∧ PSS p q F w w' r.2 := by
  refine (pcall_any (.pointer (some ⟨p, 0, none⟩)) p B n fs W _ hn hl hB h ?_).mono ?_
  · rintro W ⟨_, _, h⟩
    exact ⟨rfl, (h rfl).2⟩
  · rintro E w' ⟨e, W, rfl, ⟨rfl, h2, h3⟩, ⟨k, rfl⟩ | ⟨k, rfl⟩⟩
    · exact ⟨rfl, h2 k⟩
    · exact ⟨rfl, (h3 k).1⟩

/-- The guard's step. -/
theorem qs_guard {r : Int × Rst.St} {B : Nat} {l : List Value} (h : PS p q F W s) (h0 : PSS p q F w W s) (ha : Rst.asked s = true → r = (6, Rst.brk s)) (hr : Rst.asked s = false → Run B (QS p q F w r) l W) : Run B (QS p q F w r) (.func (.func 93) #[.pointer (some ⟨p, 0, none⟩)] #[] :: l) W := by
  obtain ⟨F1, G, h1, ⟨pw, pr, ps, Gw, Gr, Gs, lw, bw, br, V, rfl⟩, h3, hm, rfl⟩ := h
  refine Run.cons (enters_of Tryz.func93 (by kernel_rfl) rfl) (by simp) ((pguard_any p q F1 W s.d s.off h1 (blk_cell V.blk 0 rfl) (blk_cell V.blk 1 rfl)).mono ?_)
  rintro E w' ⟨rfl, rfl⟩
  refine ⟨_, rfl, rfl, ?_⟩
  cases hc : Rst.asked s with
  | true =>
    have hc' : (s.off || !s.d.on) = true := hc
    rw [if_pos hc', ha hc]
    exact .inl ⟨by decide, QS.six rfl h0⟩
  | false =>
    have hc' : ¬ (s.off || !s.d.on) = true := by rw [show (s.off || !s.d.on) = Rst.asked s from rfl, hc]; simp
    rw [if_neg hc']
    exact .inr ⟨rfl, hr hc⟩
end

/-- How far file 3's sections go, where it is just sections. -/
theorem sec_b (p q : Nat) (F : Nat → Prop) (w : World) (st : Dm.Ds) (h : Pk q F w st) (hs : Big 50000000 500000 st) (hp : w.cell? ⟨p, 0, none⟩ = some (.pointer (some ⟨q, 0, none⟩))) (hpl : p < w.heap.size) (ho : st.on = true) (h3 : T3 st) : ∀ W, Below w.heap.size w W →
    Calls Tryz.prog 138 #[.pointer (some ⟨p, 0, none⟩)] W fun E w' => E = .returned (.int .i64 (Rst.hf 3 st).length) ∧ Below W.heap.size W w' := by
  intro W hW
  have e : W.cell? ⟨p, 0, none⟩ = w.cell? ⟨p, 0, none⟩ := by have := hW.block p hpl; simp [World.cell?, this]
  rw [show Rst.hf 3 st = [] from h3]
  exact psec_any p q F W st (h.below hW) (hs.mono (by decide) (by decide)) (e.trans hp) ho h3





end Go.Proofs.YtajlhdmnincehaaGreatDoor

/- The program's restart (layer 21): commits are put behind the log: its mathematics, its rounds. -/
namespace Go.Proofs.YtajlhdmnincehaaGreatDoor
open Go.RowKit
set_option linter.unusedVariables false

theorem good_next {l cs : List Cm.Cv} (hl : Cm.Good 0 0 l) (h : Cm.Good (Cm.lastE 0 l) l.length cs) (k : Nat) (hk : k < cs.length) : Cm.Good 0 0 (l ++ cs.take k) ∧ Cm.chk (cs[k]).e (cs[k]).n (cs[k]).l = 0 ∧ (cs[k]).n - 1 = (l ++ cs.take k).length ∧ Cm.lastE 0 (l ++ cs.take k) ≤ (cs[k]).e := by
  have h0 : Cm.Good 0 0 (l ++ cs) := (Cm.good_app _ _ _ _).2 ⟨hl, by rw [Wl.good_lastN hl]; exact h⟩
  rw [← List.take_append_drop k cs, ← List.append_assoc] at h0
  obtain ⟨h1, h2⟩ := (Cm.good_app _ _ _ _).1 h0
  rw [Wl.good_lastN h1, List.drop_eq_getElem_cons hk] at h2
  exact ⟨h1, h2.1, h2.2.1, h2.2.2.1⟩

/-- An Append of a commit that follows. -/
theorem wapp_go {d : Dm.Ds} {l : List Cm.Cv} {c : Cm.Cv} (h1 : Cm.chk c.e c.n c.l = 0) (h2 : c.n - 1 = l.length) (h3 : Cm.lastE 0 l ≤ c.e) :
    Wl.wapp ⟨d, l, false⟩ c = if (Dm.write d 0 (Wl.fr c)).1 ≠ 0 then (6, ⟨(Dm.write d 0 (Wl.fr c)).2, l, true⟩) else (0, ⟨(Dm.write d 0 (Wl.fr c)).2, l ++ [c], false⟩) := by
  unfold Wl.wapp
  cases ho : d.on with
  | false =>
    have ha : Wl.ask ⟨d, l, false⟩ = true := by simp [Wl.ask, ho]
    have hw : Dm.write d 0 (Wl.fr c) = (6, d) := by unfold Dm.write; rw [if_pos ho]
    rw [if_pos ha, hw]
    rfl
  | true =>
    have ha : ¬ Wl.ask ⟨d, l, false⟩ = true := by simp [Wl.ask, ho]
    rw [if_neg ha, if_neg (by simp [h1]), if_neg (by simp only; omega)]
    have e := write_e (st := d) (Wl.fr c)
    split
    · rename_i hx
      rcases e with e | e
      · exact absurd e hx
      · rw [e]
    · rfl

theorem wsyn_go (d : Dm.Ds) (l : List Cm.Cv) : ∃ bk, Wl.wsyn ⟨d, l, false⟩ = ((Dm.sync d).1, ⟨(Dm.sync d).2, l, bk⟩) ∧ ((Dm.sync d).1 = 0 → bk = false) := by
  unfold Wl.wsyn
  cases ho : d.on with
  | false =>
    have ha : Wl.ask ⟨d, l, false⟩ = true := by simp [Wl.ask, ho]
    have hw : Dm.sync d = (6, d) := by unfold Dm.sync; rw [if_pos ho]
    rw [if_pos ha, hw]
    exact ⟨true, rfl, fun k => absurd k (by show ¬ (6 : Int) = 0; decide)⟩
  | true =>
    have ha : ¬ Wl.ask ⟨d, l, false⟩ = true := by simp [Wl.ask, ho]
    rw [if_neg ha]
    exact ⟨_, rfl, fun k => by simp [k]⟩

/-- In the midst: k of the commits are written. -/
def ExI (pw q : Nat) (FW : Nat → Prop) (w wr : World) (l cs : List Cm.Cv) (d : Dm.Ds) (k : Nat) : Prop :=
  ∃ Fk dk, WW pw q Fk wr ⟨dk, l ++ cs.take k, false⟩ ∧ Out FW w wr ∧ (∀ g, Fk g → FW g ∨ w.heap.size ≤ g) ∧ Rst.wrs d cs = Rst.wrs dk (cs.drop k) ∧ Big (50000000 + 433 * k) (500000 + 7 * k) dk

/-- What the rounds and the sync leave. -/
def ExO (pw q : Nat) (FW : Nat → Prop) (w w' : World) (l cs : List Cm.Cv) (d : Dm.Ds) : Prop :=
  ∃ F' lw bk, WW pw q F' w' ⟨(Rst.wss d cs).2, lw, bk⟩ ∧ l = lw.take l.length ∧ ((Rst.wss d cs).1 = 0 → lw = l ++ cs ∧ bk = false) ∧ Out FW w w' ∧ ∀ g, F' g → FW g ∨ w.heap.size ≤ g

theorem ExI.box {pw q : Nat} {FW : Nat → Prop} {w wr V : World} {l cs : List Cm.Cv} {d : Dm.Ds} {k : Nat} (h : ExI pw q FW w wr l cs d k) (hb : Below wr.heap.size wr V) : ExI pw q FW w V l cs d k := by
  obtain ⟨Fk, dk, h1, h2, h3, h4, h5⟩ := h
  exact ⟨Fk, dk, h1.below hb, h2.trans (Out.of_below (F := fun _ => False) hb) fun g hg => hg.elim, h3, h4, h5⟩

/-- One commit more. -/
theorem ext_round (v : Value) (pw q : Nat) (FW : Nat → Prop) (w V : World) (l : List Cm.Cv) (rs : List Cw) (d : Dm.Ds) (k : Nat) (hk : k < rs.length) (h : ExI pw q FW w V l (cvs rs) d k) (hl : Cm.Good 0 0 l) (hg : Cm.Good (Cm.lastE 0 l) l.length (cvs rs)) (hn : rs.length ≤ 100) (hc : IsC V v rs) (hf : FitC rs) (hcF : ∀ c ∈ rs, 0 < c.l.length → ∀ b, c.v.ownBlock = some b → b < w.heap.size ∧ ¬ FW b) :
    Calls Tryz.prog 157 #[.pointer (some ⟨pw, 0, none⟩), cmv (rs[k]).e (rs[k]).n (rs[k]).v] V fun E w' => ∃ e, E = .returned (.int .i64 e) ∧ Out FW w w' ∧ ((e = 0 ∧ ExI pw q FW w w' l (cvs rs) d (k + 1)) ∨ (e ≠ 0 ∧ e = (Rst.wss d (cvs rs)).1 ∧ ExO pw q FW w w' l (cvs rs) d)) := by
  obtain ⟨Fk, dk, h1, h2, h3, h4, h5⟩ := h
  have hm : rs[k] ∈ rs := List.getElem_mem hk
  have hkc : k < (cvs rs).length := by unfold cvs; simpa using hk
  have hce : (cvs rs)[k] = (rs[k]).c := List.getElem_map _
  obtain ⟨g1, g2, g3, g4⟩ := good_next hl hg k hkc
  rw [hce] at g2 g3 g4
  obtain ⟨i1, i2⟩ := hc.2 _ hm
  have hlo : (rs[k]).l.length * 40 ≤ 140737488351232 := by
    have := (hf _ hm).2
    omega
  have AP := wappend_any pw q Fk V ⟨dk, l ++ (cvs rs).take k, false⟩ (rs[k]) h1 (h5.mono (by omega) (by omega)) i1 (hf _ hm).1 i2 hlo (fun h0 b hb hF => by
    obtain ⟨q1, q2⟩ := hcF _ hm h0 b hb
    rcases h3 b hF with e | e
    · exact q2 e
    · omega)
  rw [wapp_go g2 g3 g4] at AP
  rw [List.drop_eq_getElem_cons hkc, hce, show Rst.wrs dk ((rs[k]).c :: (cvs rs).drop (k + 1)) = (if (Dm.write dk 0 (Wl.fr (rs[k]).c)).1 ≠ 0 then (6, (Dm.write dk 0 (Wl.fr (rs[k]).c)).2) else Rst.wrs (Dm.write dk 0 (Wl.fr (rs[k]).c)).2 ((cvs rs).drop (k + 1))) from rfl] at h4
  have hb := big_write h5 0 (Wl.fr (rs[k]).c)
  have hfs := Wl.fr_small (c := (rs[k]).c) g2
  have hcn : cnt (Wl.fr (rs[k]).c).length ≤ 7 := by unfold cnt; omega
  refine AP.mono ?_
  rintro E w' ⟨rfl, F', k1, k2, k3⟩
  have o' : Out FW w w' := h2.trans k2 h3
  have hs := h2.size
  have n' : ∀ g, F' g → FW g ∨ w.heap.size ≤ g := fun g hg => by
    rcases k3 g hg with e | e
    · exact h3 g e
    · exact .inr (by omega)
  by_cases he : (Dm.write dk 0 (Wl.fr (rs[k]).c)).1 = 0
  · rw [if_neg (by simp [he])] at k1 h4 ⊢
    refine ⟨0, rfl, o', .inl ⟨rfl, F', _, ?_, o', n', h4, hb.mono (by omega) (by omega)⟩⟩
    rw [show (cvs rs).take (k + 1) = (cvs rs).take k ++ [(rs[k]).c] by rw [List.take_add_one, List.getElem?_eq_getElem hkc, hce]; rfl, ← List.append_assoc]
    exact k1
  · rw [if_pos he] at k1 h4 ⊢
    have hw : Rst.wss d (cvs rs) = (6, (Dm.write dk 0 (Wl.fr (rs[k]).c)).2) := by unfold Rst.wss; rw [h4]; simp
    refine ⟨6, rfl, o', .inr ⟨by decide, by rw [hw], F', l ++ (cvs rs).take k, true, ?_, by simp, fun k => by rw [hw] at k; exact absurd k (by show ¬ (6 : Int) = 0; decide), o', n'⟩⟩
    rw [hw]
    exact k1

/-- The sync behind them. -/
theorem ext_sync (pw q : Nat) (FW : Nat → Prop) (w V : World) (l : List Cm.Cv) (cs : List Cm.Cv) (d : Dm.Ds) (h : ExI pw q FW w V l cs d cs.length) (hn : cs.length ≤ 100) :
    Calls Tryz.prog 158 #[.pointer (some ⟨pw, 0, none⟩)] V fun E w' => E = .returned (.int .i64 (Rst.wss d cs).1) ∧ ExO pw q FW w w' l cs d := by
  obtain ⟨Fk, dk, h1, h2, h3, h4, h5⟩ := h
  rw [List.drop_length] at h4
  rw [List.take_length] at h1
  have hw : Rst.wss d cs = ((Dm.sync dk).1, (Dm.sync dk).2) := by
    unfold Rst.wss
    rw [h4]
    unfold Rst.wrs
    rw [if_neg (by simp)]
    rcases sync_e dk with e | e
    · rw [if_neg (by simp [e]), e]
    · rw [if_pos (by simp [e]), e]
  obtain ⟨bk, e1, e2⟩ := wsyn_go dk (l ++ cs)
  have SY := wsync_any pw q Fk V ⟨dk, l ++ cs, false⟩ h1 (h5.mono (by omega) (by omega))
  rw [e1] at SY
  refine SY.mono ?_
  rintro E w' ⟨rfl, F', k1, k2, k3⟩
  have hs := h2.size
  refine ⟨by rw [hw], F', l ++ cs, bk, ?_, by simp, fun k => ⟨rfl, e2 (by rw [hw] at k; exact k)⟩, h2.trans k2 h3, fun g hg => ?_⟩
  · rw [hw]; exact k1
  · rcases k3 g hg with e | e
    · exact h3 g e
    · exact .inr (by omega)

end Go.Proofs.YtajlhdmnincehaaGreatDoor

/- The program's restart (layer 21): extend: commits behind the log, one sync. -/
namespace Go.Proofs.YtajlhdmnincehaaGreatDoor
open Go.RowKit
set_option linter.unusedVariables false

theorem ExI.out {pw q : Nat} {FW : Nat → Prop} {w wr : World} {l cs : List Cm.Cv} {d : Dm.Ds} {k : Nat} (h : ExI pw q FW w wr l cs d k) : Out FW w wr := by
  obtain ⟨_, _, _, h, _⟩ := h
  exact h

theorem extend_none (a : Addr) (b : Option Addr) (k : Nat) (w : World) :
    Calls Tryz.prog 102 #[.pointer (some a), .slice b 0 k] w fun E w' => E = .returned (.int .i64 0) ∧ w = w' := by
  go_enter Tryz.func102, Tryz.ntmps102
  go_wp2
  go_ret
  exact ⟨rfl, rfl⟩

theorem take_none (a : Addr) (b : Option Addr) (k : Nat) (w : World) :
    Calls Tryz.prog 104 #[.pointer (some a), .slice b 0 k] w fun E w' => E = .returned (.int .i64 0) ∧ w = w' := by
  go_enter Tryz.func104, Tryz.ntmps104
  go_wp2_with fail
  go_loopw [10] (fun iv wr => iv = .int .i64 0 ∧ w = wr) (fun _ _ => 0)
  case atStart => exact ⟨rfl, rfl⟩
  case round =>
    obtain ⟨rfl, rfl⟩ := hrel
    go_wp2
    go_ret
    exact ⟨rfl, rfl⟩

set_option maxRecDepth 20000 in
set_option maxHeartbeats 4000000 in
theorem extend_any (p q pw : Nat) (FW : Nat → Prop) (w : World) (off : Bool) (x : Pm.Pg) (vr vs : Value) (d : Dm.Ds) (l : List Cm.Cv) (v : Value) (rs : List Cw) (hb : w.heap[p]? = some (.cells (stC q off x (.pointer (some ⟨pw, 0, none⟩)) l.length vr vs) 107 (0, 0))) (hw : WW pw q FW w ⟨d, l, false⟩) (hpW : ¬ FW p) (hB : Big 50000000 500000 d) (hll : l.length ≤ 2000)
    (hg : Cm.Good (Cm.lastE 0 l) l.length (cvs rs)) (hn : rs.length ≤ 100) (h0 : 0 < rs.length) (hc : ∀ W, Out FW w W → IsC W v rs) (hf : FitC rs) (hcF : ∀ c ∈ rs, 0 < c.l.length → ∀ b, c.v.ownBlock = some b → b < w.heap.size ∧ ¬ FW b) :
    Calls Tryz.prog 102 #[.pointer (some ⟨p, 8, none⟩), v] w fun E w' => E = .returned (.int .i64 (Rst.wss d (cvs rs)).1) ∧ ∃ W, ExO pw q FW w W l (cvs rs) d ∧ ((Rst.wss d (cvs rs)).1 ≠ 0 ∧ w' = W ∨ (Rst.wss d (cvs rs)).1 = 0 ∧ w' = W.setCell ⟨p, 9, none⟩ (.int .i64 (l.length + rs.length))) := by
  have hl : Cm.Good 0 0 l := hw.good
  have hpl := blk_lt hb
  obtain ⟨b1, o1, k1, rfl, _, _⟩ := isC_cells (hc w (Out.refl _ _)) h0
  have HCL : Hid (∀ W, Out FW w W → ∀ i c, rs[i]? = some c → W.cell? ⟨b1, o1 + i * 3, none⟩ = some (.int .i64 c.e) ∧ W.cell? ⟨b1, o1 + i * 3 + 1, none⟩ = some (.int .i64 c.n) ∧ W.cell? ⟨b1, o1 + i * 3 + 2, none⟩ = some c.v) := hide fun W hW => by
    obtain ⟨b2, o2, k2, e, _, h⟩ := isC_cells (hc W hW) h0
    cases e
    exact h
  have HPB : Hid (∀ W, Out FW w W → W.heap[p]? = some (.cells (stC q off x (.pointer (some ⟨pw, 0, none⟩)) l.length vr vs) 107 (0, 0))) := hide fun W hW => (hW.block p hpl hpW).trans hb
  have I0 : Hid (ExI pw q FW w w l (cvs rs) d 0) := hide ⟨FW, d, by rw [List.take_zero, List.append_nil]; exact hw, Out.refl _ _, fun g hg => .inl hg, by rw [List.drop_zero], hB.mono (by omega) (by omega)⟩
  have RD : Hid (∀ k (hk : k < rs.length) V, ExI pw q FW w V l (cvs rs) d k → Calls Tryz.prog 157 #[.pointer (some ⟨pw, 0, none⟩), cmv (rs[k]).e (rs[k]).n (rs[k]).v] V fun E w' => ∃ e, E = .returned (.int .i64 e) ∧ Out FW w w' ∧ ((e = 0 ∧ ExI pw q FW w w' l (cvs rs) d (k + 1)) ∨ (e ≠ 0 ∧ e = (Rst.wss d (cvs rs)).1 ∧ ExO pw q FW w w' l (cvs rs) d))) := hide fun k hk V h => ext_round _ pw q FW w V l rs d k hk h hl hg hn (hc V h.out) hf hcF
  have hcl : (cvs rs).length = rs.length := by unfold cvs; simp
  have SY : Hid (∀ V, ExI pw q FW w V l (cvs rs) d rs.length → Calls Tryz.prog 158 #[.pointer (some ⟨pw, 0, none⟩)] V fun E w' => E = .returned (.int .i64 (Rst.wss d (cvs rs)).1) ∧ ExO pw q FW w w' l (cvs rs) d) := hide fun V h => ext_sync pw q FW w V l (cvs rs) d (by rw [hcl]; exact h) (by rw [hcl]; exact hn)
  have SH : Hid (∀ c ∈ rs, ∃ a n k, c.v = .slice a n k) := hide fun c hm => by
    rcases ((hc w (Out.refl _ _)).2 c hm).1 with ⟨h, _⟩ | ⟨a, k, h, _⟩
    · exact ⟨_, _, _, h⟩
    · exact ⟨_, _, _, h⟩
  have EX : Hid (∀ W, ExO pw q FW w W l (cvs rs) d → Out FW w W) := hide (by rintro W ⟨_, _, _, _, _, _, h, _⟩; exact h)
  obtain ⟨ee, hee⟩ : ∃ ee, (Rst.wss d (cvs rs)).1 = ee := ⟨_, rfl⟩
  rw [hee] at RD SY ⊢
  have hlt0 : ¬ (rs.length : Int) = 0 := by omega
  have hz : ((rs.length : Int) == 0) = false := by simpa using hlt0
  have hwr : IntKind.i64.wrap ((l.length : Int) + (rs.length : Int)) = (l.length : Int) + (rs.length : Int) := wrap_i64_small _ (by omega) (by omega)
  generalize (l.length : Int) = le at *
  clear hw hb hB hc hf hcF hg hl hee hcl hlt0
  go_enter Tryz.func102, Tryz.ntmps102
  go_wp2_with fail
  go_loopw [14] (fun iv wr => ∃ (k : Nat), iv = .int .i64 k ∧ k ≤ rs.length ∧ Hid (ExI pw q FW w wr l (cvs rs) d k)) (fun iv _ => rs.length - (intOf iv).toNat)
  case atStart => exact ⟨0, rfl, Nat.zero_le _, I0⟩
  case round =>
    obtain ⟨k, rfl, hk, IK⟩ := hrel
    by_cases hlt : k < rs.length
    · obtain ⟨c, hcc⟩ : ∃ c, rs[k] = c := ⟨_, rfl⟩
      obtain ⟨a0, a1, a2⟩ := HCL.out wr IK.out.out k c (by rw [List.getElem?_eq_getElem hlt, hcc])
      obtain ⟨va, vn, vk, hv⟩ := SH.out c (by rw [← hcc]; exact List.getElem_mem hlt)
      rw [hv] at a2
      obtain ⟨V, hV, hV', sV, bV, PV, v0, v1, v2⟩ := new_step wr 93 (.int .i64 0) (.int .i64 0) (.slice none 0 0) (.int .i64 c.e) (.int .i64 c.n) (.slice va vn vk)
      have IV := IK.out.box bV
      have AP := RD.out k hlt V.drew (IV.box (Below.refl _ _).drew)
      rw [hcc, hv] at AP
      unfold cmv at AP
      have d8 : V.cell? ⟨p, 8, none⟩ = some (.pointer (some ⟨pw, 0, none⟩)) := blk_cell (HPB.out V IV.out) 8 rfl
      have AP2 : Hid (Calls Tryz.prog 157 #[.pointer (some ⟨pw, 0, none⟩), .agg #[.int .i64 c.e, .int .i64 c.n, .slice va vn vk]] V.drew fun E w' => ∃ e, E = .returned (.int .i64 e) ∧ w'.cell? ⟨p, 8, none⟩ = some (.pointer (some ⟨pw, 0, none⟩)) ∧ Hid ((e = 0 ∧ ExI pw q FW w w' l (cvs rs) d (k + 1)) ∨ (e ≠ 0 ∧ e = ee ∧ ExO pw q FW w w' l (cvs rs) d))) := hide (by
        refine AP.mono ?_
        rintro E w' ⟨e, rfl, o, h⟩
        exact ⟨e, rfl, blk_cell (HPB.out w' o) 8 rfl, hide h⟩)
      have hlt' : (k : Int) < rs.length := by omega
      clear AP IV hcc hv PV bV sV IK
      go_wp2_with fail
      go_region_with (go_at_call 157; refine AP2.out.mono ?_; rintro E w' ⟨e, rfl, e8, H⟩)
      all_goals
        clear AP2
        by_cases he : e = 0
        · subst he
          have H := hide (H.out.resolve_right fun k => k.1 rfl).2
          go_wp2
          go_roundw
          case rel => exact ⟨k + 1, by simp, by omega, H⟩
          case measure => simp [intOf]; omega
        · obtain ⟨rfl, hX⟩ := (H.out.resolve_left fun k => he k.1).2
          have he' : (e == 0) = false := by simpa using he
          have HX := hide (And.intro he hX)
          clear hX H
          go_wp2
          go_ret
          exact ⟨rfl, _, HX.out.2, .inl ⟨HX.out.1, rfl⟩⟩
    · obtain rfl : k = rs.length := by omega
      have SY2 := hide (SY.out wr IK.out)
      have d8 : wr.cell? ⟨p, 8, none⟩ = some (.pointer (some ⟨pw, 0, none⟩)) := blk_cell (HPB.out wr IK.out.out) 8 rfl
      have hlt' : ¬ (rs.length : Int) < rs.length := by omega
      clear SY RD HCL IK SH I0 hlt hk
      go_wp2_with fail
      refine SY2.out.mono ?_
      rintro E w2 ⟨rfl, hX⟩
      have pb := HPB.out w2 (EX.out _ hX)
      have d9 : w2.cell? ⟨p, 9, none⟩ = some (.int .i64 le) := blk_cell pb 9 rfl
      have f9 := blk_froz pb 9
      have HX := hide hX
      clear hX SY2 pb
      by_cases he : ee = 0
      · subst he
        go_wp2
        go_ret
        exact ⟨rfl, w2, HX.out, rfl⟩
      · have he' : (ee == 0) = false := by simpa using he
        go_wp2
        go_ret
        exact ⟨rfl, w2, HX.out, .inl ⟨he, rfl⟩⟩

end Go.Proofs.YtajlhdmnincehaaGreatDoor

/- The program's restart (layer 21): take: the store takes commits; Add's steps. -/
namespace Go.Proofs.YtajlhdmnincehaaGreatDoor
open Go.RowKit
set_option linter.unusedVariables false

/-- The store takes what follows. -/
theorem apl_go {r : Rl.Rs} {t cs : List Cm.Cv} (h : Cm.Good 1 (Cm.lastN 0 r.l) (t ++ cs)) (hn : ∀ k, Cm.lastN (Cm.lastN 0 r.l) (t ++ cs.take k) = Cm.lastN 0 r.l + (t ++ cs.take k).length) (k : Nat) (hk : k < cs.length) : Sto.apl ⟨r, t ++ cs.take k⟩ cs[k] = (0, ⟨r, t ++ cs.take (k + 1)⟩) := by
  rw [← List.take_append_drop k cs, ← List.append_assoc] at h
  obtain ⟨_, h2⟩ := (Cm.good_app _ _ _ _).1 h
  rw [List.drop_eq_getElem_cons hk, hn k] at h2
  have hg : Cm.Good (Cm.lastE 1 (t ++ cs.take k)) (Sto.fin ⟨r, t ++ cs.take k⟩) [cs[k]] := ⟨h2.1, h2.2.1, h2.2.2.1, trivial⟩
  have hf := (Cm.fol_good [cs[k]] _ _ 0).2 hg
  unfold Sto.apl
  rw [if_neg (by simp only; rw [hf]; simp)]
  rw [List.take_add_one, List.getElem?_eq_getElem hk]
  simp

/-- In the midst: k of the commits are taken. -/
def TkI (ps pr q : Nat) (FSx : Nat → Prop) (w wr : World) (r : Rl.Rs) (t cs : List Cm.Cv) (k : Nat) : Prop :=
  ∃ Fk, SW ps pr q Fk wr ⟨r, t ++ cs.take k⟩ ∧ Out FSx w wr ∧ ∀ g, Fk g → FSx g ∨ w.heap.size ≤ g

theorem TkI.box {ps pr q : Nat} {FSx : Nat → Prop} {w wr V : World} {r : Rl.Rs} {t cs : List Cm.Cv} {k : Nat} (h : TkI ps pr q FSx w wr r t cs k) (hb : Below wr.heap.size wr V) : TkI ps pr q FSx w V r t cs k := by
  obtain ⟨Fk, h1, h2, h3⟩ := h
  exact ⟨Fk, h1.below hb, h2.trans (Out.of_below (F := fun _ => False) hb) fun g hg => hg.elim, h3⟩

theorem take_round (v : Value) (ps pr q : Nat) (FSx : Nat → Prop) (w V : World) (r : Rl.Rs) (t : List Cm.Cv) (rs : List Cw) (k : Nat) (hk : k < rs.length) (h : TkI ps pr q FSx w V r t (cvs rs) k) (hg : Cm.Good 1 (Cm.lastN 0 r.l) (t ++ cvs rs)) (hnn : ∀ k, Cm.lastN (Cm.lastN 0 r.l) (t ++ (cvs rs).take k) = Cm.lastN 0 r.l + (t ++ (cvs rs).take k).length) (ht : t.length ≤ 2000) (hn : rs.length ≤ 100) (hc : IsC V v rs) (hf : FitC rs) (hcF : ∀ c ∈ rs, 0 < c.l.length → ∀ b, c.v.ownBlock = some b → b < w.heap.size ∧ ¬ FSx b) :
    Calls Tryz.prog 159 #[.pointer (some ⟨ps, 0, none⟩), cmv (rs[k]).e (rs[k]).n (rs[k]).v] V fun E w' => E = .returned (.int .i64 0) ∧ TkI ps pr q FSx w w' r t (cvs rs) (k + 1) := by
  obtain ⟨Fk, h1, h2, h3⟩ := h
  have hm : rs[k] ∈ rs := List.getElem_mem hk
  have hkc : k < (cvs rs).length := by unfold cvs; simpa using hk
  have hce : (cvs rs)[k] = (rs[k]).c := List.getElem_map _
  obtain ⟨i1, i2⟩ := hc.2 _ hm
  have hlo : (rs[k]).l.length * 40 ≤ 140737488351232 := by
    have := (hf _ hm).2
    omega
  have hlt : (t ++ (cvs rs).take k).length ≤ 100000 := by
    rw [List.length_append, List.length_take]
    omega
  have AP := sapply_any ps pr q Fk V ⟨r, t ++ (cvs rs).take k⟩ (rs[k]) h1 i1 (hf _ hm).1 i2 hlo (fun h0 b hb hF => by
    obtain ⟨q1, q2⟩ := hcF _ hm h0 b hb
    rcases h3 b hF with e | e
    · exact q2 e
    · omega) hlt
  have ag := apl_go hg hnn k hkc
  rw [hce] at ag
  rw [ag] at AP
  refine AP.mono ?_
  rintro E w' ⟨rfl, F', k1, k2, k3⟩
  have hs := h2.size
  exact ⟨rfl, F', k1, h2.trans k2 h3, fun g hg => by
    rcases k3 g hg with e | e
    · exact h3 g e
    · exact .inr (by omega)⟩

set_option maxRecDepth 20000 in
set_option maxHeartbeats 4000000 in
theorem take_any (p q ps pr : Nat) (FSx : Nat → Prop) (w : World) (off : Bool) (x : Pm.Pg) (en : Int) (vw vr : Value) (r : Rl.Rs) (t : List Cm.Cv) (n1 k1 : Nat) (bo : Option Addr) (rs : List Cw) (hb : w.heap[p]? = some (.cells (stC q off x vw en vr (.pointer (some ⟨ps, 0, none⟩))) 107 (0, 0))) (hw : SW ps pr q FSx w ⟨r, t⟩) (hpW : ¬ FSx p)
    (hg : Cm.Good 1 (Cm.lastN 0 r.l) (t ++ cvs rs)) (hnn : ∀ k, Cm.lastN (Cm.lastN 0 r.l) (t ++ (cvs rs).take k) = Cm.lastN 0 r.l + (t ++ (cvs rs).take k).length) (ht : t.length ≤ 2000) (hn : rs.length ≤ 100) (hc : ∀ W, Out FSx w W → IsC W (.slice bo n1 k1) rs) (hf : FitC rs) (hcF : ∀ c ∈ rs, 0 < c.l.length → ∀ b, c.v.ownBlock = some b → b < w.heap.size ∧ ¬ FSx b) :
    Calls Tryz.prog 104 #[.pointer (some ⟨p, 11, none⟩), .slice bo n1 k1] w fun E w' => E = .returned (.int .i64 0) ∧ TkI ps pr q FSx w w' r t (cvs rs) rs.length := by
  have hpl := blk_lt hb
  have hn1 : n1 = rs.length := by
    rcases (hc w (Out.refl _ _)).1 with ⟨h, h'⟩ | ⟨a, k, h, _⟩
    · cases h; rw [h']; rfl
    · cases h; rfl
  subst hn1
  have HCL : Hid (∀ W, Out FSx w W → ∀ i c, rs[i]? = some c → ∃ b1 o1, bo = some ⟨b1, o1, none⟩ ∧ W.cell? ⟨b1, o1 + i * 3, none⟩ = some (.int .i64 c.e) ∧ W.cell? ⟨b1, o1 + i * 3 + 1, none⟩ = some (.int .i64 c.n) ∧ W.cell? ⟨b1, o1 + i * 3 + 2, none⟩ = some c.v) := hide fun W hW i c hi => by
    obtain ⟨b2, o2, k2, e, _, h⟩ := isC_cells (hc W hW) (by have := (List.getElem?_eq_some_iff.1 hi).1; omega)
    cases e
    exact ⟨b2, o2, rfl, h i c hi⟩
  have HPB : Hid (∀ W, Out FSx w W → W.heap[p]? = some (.cells (stC q off x vw en vr (.pointer (some ⟨ps, 0, none⟩))) 107 (0, 0))) := hide fun W hW => (hW.block p hpl hpW).trans hb
  have I0 : Hid (TkI ps pr q FSx w w r t (cvs rs) 0) := hide ⟨FSx, by rw [List.take_zero, List.append_nil]; exact hw, Out.refl _ _, fun g hg => .inl hg⟩
  have OI : Hid (∀ W k, TkI ps pr q FSx w W r t (cvs rs) k → Out FSx w W) := hide (by rintro W k ⟨_, _, h, _⟩; exact h)
  have RD : Hid (∀ k (hk : k < rs.length) V, TkI ps pr q FSx w V r t (cvs rs) k → Calls Tryz.prog 159 #[.pointer (some ⟨ps, 0, none⟩), cmv (rs[k]).e (rs[k]).n (rs[k]).v] V fun E w' => E = .returned (.int .i64 0) ∧ TkI ps pr q FSx w w' r t (cvs rs) (k + 1)) := hide fun k hk V h => take_round _ ps pr q FSx w V r t rs k hk h hg hnn ht hn (hc V (OI.out _ _ h)) hf hcF
  have SH : Hid (∀ c ∈ rs, ∃ a n k, c.v = .slice a n k) := hide fun c hm => by
    rcases ((hc w (Out.refl _ _)).2 c hm).1 with ⟨h, _⟩ | ⟨a, k, h, _⟩
    · exact ⟨_, _, _, h⟩
    · exact ⟨_, _, _, h⟩
  clear hw hb hc hf hcF hg hnn ht
  go_enter Tryz.func104, Tryz.ntmps104
  go_wp2_with fail
  go_loopw [10] (fun iv wr => ∃ (k : Nat), iv = .int .i64 k ∧ k ≤ rs.length ∧ Hid (TkI ps pr q FSx w wr r t (cvs rs) k)) (fun iv _ => rs.length - (intOf iv).toNat)
  case atStart => exact ⟨0, rfl, Nat.zero_le _, I0⟩
  case round =>
    obtain ⟨k, rfl, hk, IK⟩ := hrel
    by_cases hlt : k < rs.length
    · obtain ⟨c, hcc⟩ : ∃ c, rs[k] = c := ⟨_, rfl⟩
      obtain ⟨b1, o1, rfl, a0, a1, a2⟩ := HCL.out wr (OI.out _ _ IK.out) k c (by rw [List.getElem?_eq_getElem hlt, hcc])
      obtain ⟨va, vn, vk, hv⟩ := SH.out c (by rw [← hcc]; exact List.getElem_mem hlt)
      rw [hv] at a2
      obtain ⟨V, hV, hV', sV, bV, PV, v0, v1, v2⟩ := new_step wr 93 (.int .i64 0) (.int .i64 0) (.slice none 0 0) (.int .i64 c.e) (.int .i64 c.n) (.slice va vn vk)
      have IV := IK.out.box bV
      have AP := RD.out k hlt V.drew (IV.box (Below.refl _ _).drew)
      rw [hcc, hv] at AP
      unfold cmv at AP
      have d8 : V.cell? ⟨p, 12, none⟩ = some (.pointer (some ⟨ps, 0, none⟩)) := blk_cell (HPB.out V (OI.out _ _ IV)) 12 rfl
      have AP2 : Hid (Calls Tryz.prog 159 #[.pointer (some ⟨ps, 0, none⟩), .agg #[.int .i64 c.e, .int .i64 c.n, .slice va vn vk]] V.drew fun E w' => E = .returned (.int .i64 0) ∧ w'.cell? ⟨p, 12, none⟩ = some (.pointer (some ⟨ps, 0, none⟩)) ∧ Hid (TkI ps pr q FSx w w' r t (cvs rs) (k + 1))) := hide (by
        refine AP.mono ?_
        rintro E w' ⟨rfl, h⟩
        exact ⟨rfl, blk_cell (HPB.out w' (OI.out _ _ h)) 12 rfl, hide h⟩)
      have hlt' : (k : Int) < rs.length := by omega
      clear AP IV hcc hv PV bV sV IK
      go_wp2_with fail
      go_region_with (go_at_call 159; refine AP2.out.mono ?_; rintro E w' ⟨rfl, e8, H⟩)
      all_goals
        clear AP2
        go_wp2
        go_roundw
        case rel => exact ⟨k + 1, by simp, by omega, H⟩
        case measure => simp [intOf]; omega
    · obtain rfl : k = rs.length := by omega
      have hlt' : ¬ (rs.length : Int) < rs.length := by omega
      clear RD HCL SH I0 hlt hk
      go_wp2
      go_ret
      exact ⟨rfl, IK.out⟩

end Go.Proofs.YtajlhdmnincehaaGreatDoor
