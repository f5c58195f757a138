/- Texts of one layer, one behind the other. -/
import Derived.Test.YtmmfakpphjjjfaaGreatG37
import Derived.Test.YtmmfakpphjjjfaaGreatG33
import Derived.Deep.RegionHeld3
import Derived.Deep.RegionLaw
import Derived.Test.YtmmfakpphjjjfaaGreatG32
import Derived.Test.YtmmfakpphjjjfaaGreatG17
/- Of a store: a commit is put behind the rest; the rest catches up with the runs. -/
namespace Go.Proofs.YtmmfakpphjjjfaaGreat
open Go.RowKit
open Bm (Ov)
set_option linter.unusedVariables false

theorem Tryz.enters81 : ∀ args w, (callFunc 81 args).run Tryz.prog w = .ok (.enter 81 args) w := enters_of Tryz.func81 (by kernel_rfl) rfl

structure StP (ps p pm bm : Nat) (w : World) (l : List Cm.Cv) (v : Value) (rs : List Cw) (t : List Ov) : Prop where
 blk : w.heap[ps]? = some (.cells #[.pointer (some ⟨p, 0, none⟩), v, .pointer (some ⟨pm, 0, none⟩)] 95 (0, 0))
 rest : Rt 0 w l v rs
 tb : Tb pm bm w t

theorem Tb.bne {pm bm : Nat} {w : World} {t : List Ov} (h : Tb pm bm w t) {g : Nat} {cs : Array Value} {ty : TypeId} {fr : Nat × Nat} (hg : w.heap[g]? = some (.cells cs ty fr)) : g ≠ bm := fun e => by
 obtain ⟨es, clock, hb, _⟩ := h.own
 rw [e, hb] at hg
 cases hg

theorem Tb.pne {pm bm : Nat} {w : World} {t : List Ov} (h : Tb pm bm w t) {g : Nat} {cs : Array Value} {ty : TypeId} {fr : Nat × Nat} (hg : w.heap[g]? = some (.cells cs ty fr)) (ht : ty ≠ 126) : g ≠ pm := fun e => by
 have := h.blk
 rw [← e, hg] at this
 simp only [Option.some.injEq, Obj.cells.injEq] at this
 exact ht this.2.1

theorem tb_rt {pm bm base : Nat} {w : World} {t : List Ov} {l : List Cm.Cv} {v : Value} {rs : List Cw} (h : Tb pm bm w t) (k : Rt base w l v rs) : ¬ QB v rs pm ∧ ¬ QB v rs bm := by
 refine ⟨fun e => ?_, fun e => ?_⟩
 ·exact k.ne h.blk (by decide) (by decide) e
 ·obtain ⟨cs, ty, hg, _⟩ := k.ty bm e
  exact h.bne hg rfl

theorem sk_push {ps p pm bm : Nat} {w wc : World} {l : List Cm.Cv} {v : Value} {rs : List Cw} {c : Cw} (hv : StV ps p pm bm w l v rs) (hb : Below w.heap.size w wc) (hc : OwnO 65 w.heap.size wc c.v c.l) (hg : Cm.chk c.e c.n c.l = 0) (hn : l.length + 1 ≤ 1048576) (ty : TypeId) :
  ∃ V, wc.alloc (.cells #[.int .i64 c.e, .int .i64 c.n, c.v] 50) = V ∧ V.cell? ⟨ps, 1, none⟩ = some v ∧ ∃ v2 w2, (Builtin.append_ #[22, 22] ty #[v, .slice (some ⟨wc.heap.size, 0, none⟩) 1 1]).run Tryz.prog V = .ok v2 w2 ∧ w2.cell? ⟨ps, 1, none⟩ = some v ∧ w2.frozen? ⟨ps, 1, none⟩ = false ∧ (∃ a n k, v2 = .slice a n k) ∧
   StP ps p pm bm (w2.setCell ⟨ps, 1, none⟩ v2) (l ++ [c.c]) v2 (rs ++ [c]) (Rl.tab l) ∧ Out (fun g => g = ps ∨ v.ownBlock = some g) w (w2.setCell ⟨ps, 1, none⟩ v2) ∧ ∀ g, QB v2 (rs ++ [c]) g → QB v rs g ∨ w.heap.size ≤ g := by
 have hsz := hb.size
 obtain ⟨V, hV, szV, belV, ownV⟩ := coms_step 50 wc #[.int .i64 c.e, .int .i64 c.n, c.v] 1 [c] rfl rfl (by simp [maxLen])
 have bwV := hb.trans (belV.mono hsz)
 have qV := hv.rest.below bwV
 have BV := (bwV.block ps (blk_lt hv.blk)).trans hv.blk
 have hone : ∀ d ∈ [c], d.v.oneCell' = true := fun d hd => by rw [List.mem_singleton.1 hd]; exact hc.is.one
 obtain ⟨v2, w2, hr, own2, gr2, at2⟩ := run_append_coms_at (P := Tryz.prog) (w := V) 22 ty 50 0 Tryz.underlying22 Tryz.info50 v rs qV.row _ [c] ownV.row hone (by have := hv.rest.few; have := hv.rest.len; simp; omega) (Nat.zero_le _)
 have kp : KeepT 50 V w2 := KeepT.of_row qV.row gr2
 have q2 := qV.grow own2 kp ((hc.below belV).rebase (Nat.zero_le _)) hg hn
 have hpn : ¬ v.ownBlock = some ps := fun e => qV.ne BV (by decide) (by decide) (.inl e)
 have B2 := (gr2.block ps (blk_lt BV) (fun e => hpn e.symm)).trans BV
 obtain ⟨X, hX, bX, gX, fX⟩ := put_at3 B2 1 v2
 have qX : Rt 0 X (l ++ [c.c]) v2 (rs ++ [c]) := q2.agree fun g hg => gX.block g (q2.lt g hg) fun e => by
  simp at e
  exact q2.ne B2 (by decide) (by decide) (e ▸ hg)
 have oX : Out (fun g => g = ps ∨ v.ownBlock = some g) w X := ((Out.of_below (F := fun g => g = ps ∨ v.ownBlock = some g) bwV).trans (Out.of_grown (F := fun g => g = ps ∨ v.ownBlock = some g) gr2 fun g hg => .inr hg) fun g hg => .inl hg).trans (Out.of_grown (F := fun g => g = ps ∨ v.ownBlock = some g) gX fun g hg => .inl (by simpa using hg.symm)) fun g hg => .inl hg
 have tX : Tb pm bm X (Rl.tab l) := by
  obtain ⟨t1, t2⟩ := tb_rt hv.tb hv.rest
  refine hv.tb.agree (oX.block pm hv.tb.plt ?_) (oX.block bm hv.tb.blt ?_)
  ·rintro (e | e)
   ·exact hv.tb.pne hv.blk (by decide) e.symm
   ·exact t1 (.inl e)
  ·rintro (e | e)
   ·exact hv.tb.bne hv.blk e.symm
   ·exact t2 (.inl e)
 refine ⟨V, hV, blk_cell BV 1 rfl, v2, w2, hr, blk_cell B2 1 rfl, fX, ?_, ?_⟩
 ·obtain ⟨a1, k1, h1, _⟩ := own2.row.shape
  exact ⟨a1, _, k1, h1⟩
 ·rw [hX]
  refine ⟨⟨bX, qX, tX⟩, oX, ?_⟩
  rintro g (e | ⟨d, hd, e⟩)
  ·rcases at2 with h | h
   ·exact .inl (.inl (h ▸ e))
   ·rw [h] at e
    simp at e
    exact .inr (by omega)
  ·rcases List.mem_append.1 hd with hd | hd
   ·exact .inl (.inr ⟨d, hd, e⟩)
   ·rw [List.mem_singleton.1 hd] at e
    exact .inr (hc.block g e).1

def SkS (ps p : Nat) (G : Nat → Prop) (w w' : World) (l' : List Cm.Cv) : Prop := ∃ G', Sk ps p G' w' l' ∧ Out G w w' ∧ ∀ g, G' g → G g ∨ w.heap.size ≤ g

theorem SkS.pre {ps p : Nat} {G : Nat → Prop} {w w1 w2 : World} {l : List Cm.Cv} (hb : Below w.heap.size w w1) (h : SkS ps p G w1 w2 l) : SkS ps p G w w2 l := by
 obtain ⟨G', h1, h2, h3⟩ := h
 refine ⟨G', h1, (Out.of_below (F := G) hb).trans h2 fun g hg => .inl hg, fun g hg => ?_⟩
 rcases h3 g hg with e | e
 ·exact .inl e
 ·exact .inr (Nat.le_trans hb.size e)

theorem SkS.sts {ps p q : Nat} {F1 G : Nat → Prop} {w w' : World} {r : Rl.Rs} {l' : List Cm.Cv} (h1 : RW p q F1 w r) (hd : ∀ g, G g → ¬ F1 g) (h : SkS ps p G w w' l') (ok : Sto.Ok ⟨r, l'⟩) : StS ps p q (fun g => F1 g ∨ G g) w w' ⟨r, l'⟩ := by
 obtain ⟨G', k1, k2, k3⟩ := h
 refine ⟨_, ⟨F1, G', h1.out k2 fun g hg e => hd g e hg, k1, fun g hg hf => ?_, ok, rfl⟩, k2.mono fun g hg => .inl (.inr hg), ?_⟩
 ·rcases k3 g hg with e | e
  ·exact hd g e hf
  ·have := h1.lt g hf
   omega
 ·rintro g (e | e)
  ·exact .inl (.inl e)
  ·exact (k3 g e).imp (fun e => .inr e) id

theorem StP.done {ps p pm bm : Nat} {w0 w w' : World} {l : List Cm.Cv} {v v2 : Value} {rs : List Cw} {c : Cw} (h : StP ps p pm bm w (l ++ [c.c]) v2 (rs ++ [c]) (Rl.tab l)) (ho : Out (fun g => g = ps ∨ v.ownBlock = some g) w0 w) (hq : ∀ g, QB v2 (rs ++ [c]) g → QB v rs g ∨ w0.heap.size ≤ g)
  (ht : Tb pm bm w' (Rl.tab (l ++ [c.c]))) (o2 : Out (fun g => g = bm) w w') : SkS ps p (SB ps pm bm v rs) w0 w' (l ++ [c.c]) := by
 obtain ⟨t1, t2⟩ := tb_rt h.tb h.rest
 have hbk : w'.heap[ps]? = some (.cells #[.pointer (some ⟨p, 0, none⟩), v2, .pointer (some ⟨pm, 0, none⟩)] 95 (0, 0)) := (o2.block ps (blk_lt h.blk) (h.tb.bne h.blk)).trans h.blk
 have hre : Rt 0 w' (l ++ [c.c]) v2 (rs ++ [c]) := h.rest.out o2 fun g hg e => t2 (e ▸ hg)
 have oA : Out (SB ps pm bm v rs) w0 w' := (ho.mono (G := SB ps pm bm v rs) fun g hg => .inl (hg.elim (fun e => .inl e) fun e => .inr (.inr (.inr (.inl e))))).trans o2 fun g hg => .inl (.inr (.inr (.inl hg)))
 refine ⟨_, ⟨pm, bm, v2, rs ++ [c], ⟨hbk, hre, ht⟩, rfl⟩, oA, ?_⟩
 rintro g (e | e | e | e)
 ·exact .inl (.inl e)
 ·exact .inl (.inr (.inl e))
 ·exact .inl (.inr (.inr (.inl e)))
 ·exact (hq g e).imp (fun e => .inr (.inr (.inr e))) id

set_option maxRecDepth 20000 in
set_option maxHeartbeats 4000000 in
theorem sadd_fine (ps p pm bm : Nat) (w : World) (l : List Cm.Cv) (v : Value) (rs : List Cw) (c : Cw) (hs : StV ps p pm bm w l v rs) (hi : IsO w c.v c.l) (hchk : Cm.chk c.e c.n c.l = 0) (hcF : 0 < c.l.length → ∀ b, c.v.ownBlock = some b → ¬ SB ps pm bm v rs b) (hn : l.length ≤ 100000) (htl : (Rl.tab l).length ≤ l.length * 8) :
  Calls Tryz.prog 42 #[.pointer (some ⟨ps, 0, none⟩), cmv c.e c.n c.v] w fun E w' => (∃ u, E = .returned u) ∧ SkS ps p (SB ps pm bm v rs) w w' (l ++ [c.c]) := by
 obtain ⟨f1, f2, f3, f4, f5⟩ := fit_com hchk
 obtain ⟨w1, hw1, sz1, bel1, hB⟩ := blk_step w #[.int .i64 c.e, .int .i64 c.n, c.v] 50
 have hs1 := hs.below bel1
 have i1 := hi.below bel1
 have c0 : w1.cell? ⟨w.heap.size, 0, none⟩ = some (.int .i64 c.e) := blk_cell hB 0 rfl
 have c1 : w1.cell? ⟨w.heap.size, 1, none⟩ = some (.int .i64 c.n) := blk_cell hB 1 rfl
 have c2 : w1.cell? ⟨w.heap.size, 2, none⟩ = some c.v := blk_cell hB 2 rfl
 have hp1 : ps < w1.heap.size := blk_lt hs1.blk
 have y1 : w1.cell? ⟨ps, 1, none⟩ = some v := blk_cell hs1.blk 1 rfl
 obtain ⟨ao, cap, hcv, _, _⟩ := hi.shape
 obtain ⟨la, ln, lk, hlv⟩ : ∃ a n k, v = .slice a n k := by
  obtain ⟨a1, k1, h1, _⟩ := hs.rest.row.row.shape
  exact ⟨a1, _, k1, h1⟩
 have hpsw : ps < w.heap.size := blk_lt hs.blk
 have X1 : Hid (Calls Tryz.prog 81 #[.agg #[.int .i64 c.e, .int .i64 c.n, c.v]] w1.drew fun E w6 => ∃ v', E = .returned v' ∧ ∃ (vo : Value) (V : World), v' = .agg #[.int .i64 c.e, .int .i64 c.n, vo] ∧ (∃ a n k, vo = .slice a n k) ∧ w6.cell? ⟨ps, 1, none⟩ = some v ∧ (w6.cell? ⟨w.heap.size, 0, none⟩ = some (.int .i64 c.e) ∧ w6.cell? ⟨w.heap.size, 1, none⟩ = some (.int .i64 c.n) ∧ w6.cell? ⟨w.heap.size, 2, none⟩ = some c.v) ∧ w6.alloc (.cells #[.int .i64 c.e, .int .i64 c.n, vo] 50) = V ∧ (V.cell? ⟨ps, 1, none⟩ = some v ∧ (V.cell? ⟨w.heap.size, 0, none⟩ = some (.int .i64 c.e) ∧ V.cell? ⟨w.heap.size, 1, none⟩ = some (.int .i64 c.n) ∧ V.cell? ⟨w.heap.size, 2, none⟩ = some c.v)) ∧
   Hid (∀ ty, ∃ v2 w2, (Builtin.append_ #[22, 22] ty #[v, .slice (some ⟨w6.heap.size, 0, none⟩) 1 1]).run Tryz.prog V = .ok v2 w2 ∧ ((StP ps p pm bm (w2.setCell ⟨ps, 1, none⟩ v2) (l ++ [c.c]) v2 (rs ++ [⟨c.e, c.n, vo, c.l⟩]) (Rl.tab l) ∧ Out (fun g => g = ps ∨ v.ownBlock = some g) w1 (w2.setCell ⟨ps, 1, none⟩ v2) ∧ ∀ g, QB v2 (rs ++ [⟨c.e, c.n, vo, c.l⟩]) g → QB v rs g ∨ w1.heap.size ≤ g) ∧ w2.cell? ⟨ps, 1, none⟩ = some v ∧ w2.frozen? ⟨ps, 1, none⟩ = false ∧ ∃ a n k, v2 = .slice a n k))) := hide (by
  have := ccopy_any c.e c.n c.v c.l w1.drew (i1.drewN 1) f2
  unfold cmv at this
  refine this.mono ?_
  rintro E w6 ⟨vo, rfl, own6, bel6⟩
  have b16 : Below w1.heap.size w1 w6 := (Below.refl w1.heap.size w1).drew.trans bel6
  obtain ⟨V, hV, V2, _⟩ := sk_push (c := ⟨c.e, c.n, vo, c.l⟩) hs1 b16 own6 hchk (by omega) 22
  have belV : Below w6.heap.size w6 V := by rw [← hV]; exact (Below.refl _ _).alloc (Nat.le_refl _) _
  have b1V := b16.trans (belV.mono b16.size)
  obtain ⟨a1, k1, h1, _⟩ := own6.is.shape
  refine ⟨_, rfl, vo, V, rfl, ⟨a1, _, k1, h1⟩, (b16.cell (p := ⟨ps, 1, none⟩) hp1).trans y1, ⟨(b16.cell (p := ⟨w.heap.size, 0, none⟩) (show w.heap.size < w1.heap.size by omega)).trans c0, (b16.cell (p := ⟨w.heap.size, 1, none⟩) (show w.heap.size < w1.heap.size by omega)).trans c1, (b16.cell (p := ⟨w.heap.size, 2, none⟩) (show w.heap.size < w1.heap.size by omega)).trans c2⟩, hV, ⟨V2, (b1V.cell (p := ⟨w.heap.size, 0, none⟩) (show w.heap.size < w1.heap.size by omega)).trans c0, (b1V.cell (p := ⟨w.heap.size, 1, none⟩) (show w.heap.size < w1.heap.size by omega)).trans c1, (b1V.cell (p := ⟨w.heap.size, 2, none⟩) (show w.heap.size < w1.heap.size by omega)).trans c2⟩, hide fun ty => ?_⟩
  obtain ⟨V', hV', V2', v2', w2', hr', q1', q2', q3', J⟩ := sk_push (c := ⟨c.e, c.n, vo, c.l⟩) hs1 b16 own6 hchk (by omega) ty
  have eV : V' = V := hV'.symm.trans hV
  subst eV
  exact ⟨v2', w2', hr', J, q1', q2', q3'⟩)
 have hlt := hs.lt
 have HH := hide (And.intro hs1 (And.intro i1 (And.intro hB (And.intro bel1 hlt))))
 have HF := hide (And.intro f1 (And.intro hn f5))
 have HCF := hide hcF
 unfold cmv
 have HCV := hide hcv
 rw [hcv] at hw1 c2 X1 ⊢
 rw [hlv] at y1 X1
 have HLV := hide hlv
 have hta : Tm.aft (Rl.tab l) c.l = Rl.tab (l ++ [c.c]) ∧ Bm.first c.l = 0 := tab_aft (l := l) (c := c.c) hchk
 have HTA := hide hta
 have HTL := hide htl
 have HSZ := hide sz1
 clear htl hs hi f1 f2 f3 f4 f5 hs1 i1 bel1 hB hcF hcv hlv hchk sz1 hlt hta hn hp1 hpsw
 go_enter Tryz.func42, Tryz.ntmps42
 go_wp2_with fail
 go_region_law (first
  | (have ow := XX; refine step_append_at rfl (.tmp 8) (.tmp 11) 22 rfl (.slice la ln lk) (.slice (some ⟨w6.heap.size, 0, none⟩) 1 1) (by first | (simp [Act.eval]; done) | (simp [Act.eval, Act.put]; done)) (by first | (simp [Act.eval]; done) | (simp [Act.eval, Act.put]; done)) XX.out ?_; rintro v8 w8 ⟨J, d8, g8, a8, n8, k8, rfl⟩; have J := hide J)
  | (refine call_at rfl 81 #[.tmp 9] #[50] rfl Tryz.enters81 #[.agg #[.int .i64 c.e, .int .i64 c.n, .slice ao c.l.length cap]] (by first | (simp [Act.eval]; done) | (simp [Act.eval, Act.put]; done)) X1.out ?_; rintro v6 w6 ⟨vo, V, rfl, ⟨oa, on, ok, rfl⟩, z2, ⟨b0, b1, b2⟩, hV, ⟨z3, b3, b4, b5⟩, XX⟩))
 all_goals
  obtain ⟨X, hX⟩ : ∃ X, w8.setCell ⟨ps, 1, none⟩ (.slice a8 n8 k8) = X := ⟨_, rfl⟩
  obtain ⟨hs1, i1, hB, bel1, hlt⟩ := HH.out
  have JJ := J.out
  rw [hX] at JJ
  rw [← HLV.out] at JJ
  obtain ⟨sp, ox, hq⟩ := JJ
  have x2 : X.cell? ⟨ps, 2, none⟩ = some (.pointer (some ⟨pm, 0, none⟩)) := blk_cell sp.blk 2 rfl
  have hwne : ¬ (w.heap.size = ps ∨ v.ownBlock = some w.heap.size) := by
   rintro (e | e)
   ·have := hlt ps (.inl rfl); omega
   ·have := hlt w.heap.size (.inr (.inr (.inr (.inl e)))); omega
  have hBX := (ox.block w.heap.size (by have := HSZ.out; omega) hwne).trans hB
  have xc : X.cell? ⟨w.heap.size, 2, none⟩ = some (.slice ao c.l.length cap) := by rw [← HCV.out]; exact blk_cell hBX 2 rfl
  have iX : IsO X c.v c.l := i1.out ox fun hp b hb hf => HCF.out hp b hb (by
   rcases hf with e | e
   ·exact .inl e
   ·exact .inr (.inr (.inr (.inl e))))
  have HA := hide (tapply_any pm bm X.drew _ c.v c.l (sp.tb.agree rfl rfl) (iX.drewN 1) HF.out.1 (by have h1 := HTL.out; have h2 := HF.out.2.1; have h3 := HF.out.2.2; omega))
  rw [HTA.out.1, HTA.out.2, HCV.out] at HA
  have SP := hide (And.intro sp (And.intro ox hq))
  have hpx : ps < X.heap.size := blk_lt sp.blk
  have hwx : w.heap.size < X.heap.size := blk_lt hBX
  have hpbm : ps ≠ bm := sp.tb.bne sp.blk
  have hwbm : w.heap.size ≠ bm := sp.tb.bne hBX
  clear sp ox hq hBX iX J hs1 i1 hB bel1 hlt hwne
  go_wp2_with fail
  go_region_held3 (fun w' => w'.cell? ⟨ps, 2, none⟩ = some (.pointer (some ⟨pm, 0, none⟩)) ∧ w'.cell? ⟨w.heap.size, 2, none⟩ = some (.slice ao c.l.length cap)) (first | exact ⟨x2, xc⟩ | exact ⟨u2, uc⟩ | go_keep)
   (first
   | (go_at_call 82; refine HA.out.mono ?_; rintro E wz ⟨rfl, TZ, OZ'⟩; have OZ : Out (fun g => g = bm) X wz := ((Out.refl _ X).drew 1).trans OZ' fun g hg => .inl hg; have u2 := (cell_of_blk' (OZ.block ps hpx hpbm) 2).trans x2; have uc := (cell_of_blk' (OZ.block w.heap.size hwx hwbm) 2).trans xc; have TZ := hide TZ; have OZH := hide OZ; clear OZ OZ'))
  obtain ⟨hs1, i1, hB, bel1, hlt⟩ := HH.out
  have FIN := hide (SkS.pre bel1 (StP.done SP.out.1 SP.out.2.1 SP.out.2.2 TZ.out OZH.out))
  clear hs1 i1 hB bel1 hlt
  go_wp2
  go_end0
  exact ⟨⟨_, rfl⟩, FIN.out⟩

theorem sadd_any (ps p q : Nat) (F : Nat → Prop) (w : World) (s : Sto.Ss) (c : Cw) (h : SW ps p q F w s) (hi : IsO w c.v c.l) (ok : Sto.Ok ⟨s.r, s.l ++ [c.c]⟩) (hcF : 0 < c.l.length → ∀ b, c.v.ownBlock = some b → ¬ F b) (hn : s.l.length ≤ 100000) :
  Calls Tryz.prog 42 #[.pointer (some ⟨ps, 0, none⟩), cmv c.e c.n c.v] w fun E w' => (∃ u, E = .returned u) ∧ StS ps p q F w w' ⟨s.r, s.l ++ [c.c]⟩ := by
 obtain ⟨F1, G1, h1, ⟨pm, bm, v, rs, hs, rfl⟩, hd, ok0, rfl⟩ := h
 refine (sadd_fine ps p pm bm w s.l v rs c hs hi (Sto.good_all ok.rest c.c (by simp)).1 (fun hp b hb hf => hcF hp b hb (.inr hf)) hn (Sto.tab_len ok0.rest)).mono ?_
 rintro E w' ⟨hu, hk⟩
 exact ⟨hu, hk.sts h1 hd ok⟩

end Go.Proofs.YtmmfakpphjjjfaaGreat

/- Of a store: the rest catches up with the runs; Flush. -/
namespace Go.Proofs.YtmmfakpphjjjfaaGreat
open Go.RowKit
open Bm (Ov)
set_option linter.unusedVariables false

theorem sk_cut {ps p pm bm k : Nat} {w wd w2 : World} {l : List Cm.Cv} {v v' : Value} {rs : List Cw} (hs : StV ps p pm bm w l v rs) (hb : Below w.heap.size w wd) (hr : OwnR 50 0 w2 v' (rs.drop k)) (ho : Out (fun g => v.ownBlock = some g) wd w2) (hbv : v'.ownBlock = v.ownBlock) :
  w2.cell? ⟨ps, 1, none⟩ = some v ∧ w2.frozen? ⟨ps, 1, none⟩ = false ∧ ∃ X, w2.setCell ⟨ps, 1, none⟩ v' = X ∧ X.heap[ps]? = some (.cells #[.pointer (some ⟨p, 0, none⟩), v', .pointer (some ⟨pm, 0, none⟩)] 95 (0, 0)) ∧ Rt 0 X (l.drop k) v' (rs.drop k) ∧ Out (fun g => g = ps ∨ v.ownBlock = some g) w X ∧ ∀ g, QB v' (rs.drop k) g → QB v rs g := by
 have hd := hs.below hb
 have hpn : ¬ v.ownBlock = some ps := fun e => hd.rest.ne hd.blk (by decide) (by decide) (.inl e)
 have B2 := (ho.block ps (blk_lt hd.blk) hpn).trans hd.blk
 obtain ⟨X, hX, bX, gX, fX⟩ := put_at3 B2 1 v'
 have hq : ∀ g, QB v' (rs.drop k) g → QB v rs g := by
  rintro g (e | ⟨c, hc, e⟩)
  ·exact .inl (by rw [← hbv]; exact e)
  ·exact .inr ⟨c, List.mem_of_mem_drop hc, e⟩
 have c2 : CopyR 0 w2 (rs.drop k) := fun c hc => by
  have h1 := hd.rest.cop c (List.mem_of_mem_drop hc)
  refine row_agree h1 fun g hg => ho.block g (OwnO.block h1 g hg).2 fun e => ?_
  obtain ⟨c1, e1⟩ := h1.type hg
  obtain ⟨c2, e2⟩ := hd.rest.row.type e
  rw [e1] at e2
  simp only [Option.some.injEq, Obj.cells.injEq] at e2
  exact absurd e2.2.1 (by decide)
 have r2 : Rt 0 w2 (l.drop k) v' (rs.drop k) := ⟨hr, c2, by rw [← hs.rest.is]; simp [cvs], fun c hc => hs.rest.good c (List.mem_of_mem_drop hc), by have := hs.rest.few; rw [List.length_drop]; omega⟩
 have rX : Rt 0 X (l.drop k) v' (rs.drop k) := r2.agree fun g hg => gX.block g (r2.lt g hg) fun e => by
  simp at e
  exact r2.ne B2 (by decide) (by decide) (e ▸ hg)
 refine ⟨blk_cell B2 1 rfl, fX, X, hX, bX, rX, ?_, hq⟩
 exact ((Out.of_below (F := fun g => g = ps ∨ v.ownBlock = some g) hb).trans ho fun g hg => .inl (.inr hg)).trans (Out.of_grown (F := fun g => g = ps) gX fun g hg => by simpa using hg.symm) fun g hg => .inl (.inl hg)

theorem sk_tab {ps p pm pm' bm' : Nat} {X w4 : World} {l : List Cm.Cv} {v : Value} {rs : List Cw} (hX : X.heap[ps]? = some (.cells #[.pointer (some ⟨p, 0, none⟩), v, .pointer (some ⟨pm, 0, none⟩)] 95 (0, 0))) (hr : Rt 0 X l v rs) (hb : Below X.heap.size X w4) (ht : Tb pm' bm' w4 (Rl.tab l)) :
  w4.cell? ⟨ps, 2, none⟩ = some (.pointer (some ⟨pm, 0, none⟩)) ∧ w4.frozen? ⟨ps, 2, none⟩ = false ∧ ∃ Y, w4.setCell ⟨ps, 2, none⟩ (.pointer (some ⟨pm', 0, none⟩)) = Y ∧ StV ps p pm' bm' Y l v rs ∧ Out (fun g => g = ps) X Y := by
 have B4 := (hb.block ps (blk_lt hX)).trans hX
 have r4 := hr.below hb
 obtain ⟨Y, hY, bY, gY, fY⟩ := put_at3 B4 2 (.pointer (some ⟨pm', 0, none⟩))
 refine ⟨blk_cell B4 2 rfl, fY, Y, hY, ⟨bY, ?_, ?_⟩, (Out.of_below (F := fun g => g = ps) hb).trans (Out.of_grown (F := fun g => g = ps) gY fun g hg => by simpa using hg.symm) fun g hg => .inl hg⟩
 ·exact r4.agree fun g hg => gY.block g (r4.lt g hg) fun e => by
   simp at e
   exact r4.ne B4 (by decide) (by decide) (e ▸ hg)
 ·refine ht.agree (gY.block pm' ht.plt fun e => ?_) (gY.block bm' ht.blt fun e => ?_)
  ·simp at e
   exact ht.pne B4 (by decide) e.symm
  ·simp at e
   exact ht.bne B4 e.symm

set_option maxRecDepth 20000 in
set_option maxHeartbeats 4000000 in
theorem catch2_any (ps p q pm bm : Nat) (F1 : Nat → Prop) (w : World) (r : Rl.Rs) (l : List Cm.Cv) (v : Value) (rs : List Cw) (k : Nat) (h1 : RW p q F1 w r) (hs : StV ps p pm bm w l v rs) (hd : ∀ g, SB ps pm bm v rs g → ¬ F1 g) (hk : k ≤ l.length) (hk0 : 0 < k) (ha : ∀ c ∈ l.take k, c.n ≤ Cm.lastN 0 r.l) (hb : ∀ c ∈ l.drop k, Cm.lastN 0 r.l < c.n) (ok : Sto.Ok ⟨r, l.drop k⟩) (hn : l.length ≤ 100000) :
  Calls Tryz.prog 93 #[.pointer (some ⟨ps, 0, none⟩)] w fun E w' => (∃ u, E = .returned u) ∧ StS ps p q (fun g => F1 g ∨ SB ps pm bm v rs g) w w' ⟨r, l.drop k⟩ := by
 have HE := hide (hrend_any p q F1 w r h1)
 have c0 := blk_cell hs.blk 0 rfl
 obtain ⟨V, hV1, hV, szV, bV, BV, cV⟩ := new_cell w 3 (.int .i64 0) (.int .i64 (Cm.lastN 0 r.l))
 have d1 := blk_cell (hs.below bV).blk 1 rfl
 simp only [List.getElem_toArray, List.getElem_cons_zero, List.getElem_cons_succ] at c0 d1
 have hrl := hs.rest.len
 have hrow := hs.rest.row.row
 have ha' : ∀ c ∈ rs.take k, c.n ≤ Cm.lastN 0 r.l := fun c hc => ha c.c (by
  rw [← hs.rest.is, ← cvs_take]
  exact List.mem_map.2 ⟨c, hc, rfl⟩)
 have hb' : ∀ c ∈ rs.drop k, Cm.lastN 0 r.l < c.n := fun c hc => hb c.c (by
  rw [← hs.rest.is]
  simp only [cvs, ← List.map_drop]
  exact List.mem_map.2 ⟨c, hc, rfl⟩)
 obtain ⟨c, hck⟩ : ∃ c, rs[0]? = some c := ⟨rs[0]'(by omega), by rw [List.getElem?_eq_getElem]⟩
 have hcn := ha' c (List.mem_of_getElem? (show (rs.take k)[0]? = some c by rw [List.getElem?_take_of_lt hk0]; exact hck))
 obtain ⟨g, off, cap, hvv, _, _, hg, hcell⟩ := hrow.full (by omega)
 obtain ⟨_, e1, _⟩ := hcell 0 c hck
 have e1' : V.cell? ⟨g, off + 1, none⟩ = some (.int .i64 c.n) := (bV.cell (p := ⟨g, off + 1, none⟩) hg).trans (by simpa using e1)
 have hlen : ((rs.length : Int) == 0) = false := beq_eq_false_iff_ne.2 (by omega)
 have hl0 : (0 : Int) < rs.length := by omega
 have hnlt : ¬ Cm.lastN 0 r.l < c.n := by omega
 have HD : Hid (∀ m, Calls Tryz.prog 133 #[v, .func (.func 134) #[] #[.pointer (some ⟨w.heap.size, 0, none⟩)]] (V.drewN m) fun E w' => ∃ v', E = .returned v' ∧ OwnR 50 0 w' v' (rs.drop k) ∧ Out (fun g => v.ownBlock = some g) (V.drewN m) w' ∧ v'.ownBlock = v.ownBlock ∧ ∃ a n k, v' = .slice a n k) := hide fun m =>
  delF_any (V.drewN m) 0 v rs k (Cm.lastN 0 r.l) w.heap.size ((hs.below (below_drewN bV m)).rest.row) (by omega) hk0 ha' hb' BV (fun c hc => by
   obtain ⟨a, k, h, _⟩ := (hs.rest.cop c hc).is.shape
   exact ⟨_, _, _, h⟩) (by have := hs.rest.few; omega)
 have HH := hide (And.intro h1 (And.intro hs (And.intro hd (And.intro ok (And.intro bV hn)))))
 generalize Cm.lastN 0 r.l = z at *
 have HV := hide hvv
 rw [hvv] at d1 HD
 generalize rs.length = n at *
 generalize c.n = x at *
 clear h1 hs hd ok ha hb ha' hb' hrow hcell hck e1 bV BV hvv hn hrl
 go_enter Tryz.func93, Tryz.ntmps93
 go_wp2_with fail
 refine HE.out.mono ?_
 rintro E w1 ⟨rfl, rfl⟩
 go_wp2_with fail
 go_quiet (fail)
 generalize hyy : V.drewN nq = Y
 have dY : Y.cell? ⟨ps, 1, none⟩ = some (.slice (some ⟨g, off, none⟩) n cap) := by rw [← hyy]; exact d1
 have HD1 := hide (HD.out nq)
 have BY : Hid (Below w.heap.size w Y) := hide (by rw [← hyy]; exact below_drewN HH.out.2.2.2.2.1 _)
 rw [hyy] at HD1
 clear hyy d1 HD
 go_wp2_with fail
 refine HD1.out.mono ?_
 rintro E w2 ⟨v', rfl, hr, ho, hbv, sa, sn, sk, rfl⟩
 rw [← HV.out] at ho hbv
 obtain ⟨y1, y2, X, hX, bX, rX, oX, hq⟩ := sk_cut HH.out.2.1 BY.out hr ho hbv
 rw [HV.out] at y1
 have x1 : X.cell? ⟨ps, 1, none⟩ = some (.slice sa sn sk) := blk_cell bX 1 rfl
 have HT := hide (tableof_any (.slice sa sn sk) (rs.drop k) X rX.isc (fun c hc => rX.get c hc) (by have h1 := rX.len; have h2 := HH.out.2.2.2.2.2; rw [h1, List.length_drop]; omega))
 rw [rX.is] at HT
 have HX := hide (And.intro bX (And.intro rX (And.intro oX hq)))
 clear HD1 hr ho hbv bX rX oX hq
 go_wp2_with fail
 refine HT.out.mono ?_
 rintro E w4 ⟨pm', rfl, bm', T4, p4, b4, bel4⟩
 obtain ⟨z1, z2, Y2, hY2, sY, oY⟩ := sk_tab HX.out.1 HX.out.2.1 bel4 T4
 have FIN : Hid (StS ps p q (fun g => F1 g ∨ SB ps pm bm v rs g) w Y2 ⟨r, l.drop k⟩) := hide (by
  obtain ⟨h1, hs, hd, ok, bV, _⟩ := HH.out
  obtain ⟨_, rX, oX, hq⟩ := HX.out
  have szX := oX.size
  have oA : Out (SB ps pm bm v rs) w Y2 := (oX.mono (G := SB ps pm bm v rs) fun g hg => .inl (hg.elim (fun e => .inl e) fun e => .inr (.inr (.inr (.inl e))))).trans oY fun g hg => .inl (.inl hg)
  have hnew : ∀ g, SB ps pm' bm' (.slice sa sn sk) (rs.drop k) g → SB ps pm bm v rs g ∨ w.heap.size ≤ g := by
   rintro g (e | e | e | e)
   ·exact .inl (.inl e)
   ·exact .inr (by omega)
   ·exact .inr (by omega)
   ·exact .inl (.inr (.inr (.inr (hq g e))))
  refine ⟨_, ⟨F1, _, h1.out oA fun g hg e => hd g e hg, ⟨pm', bm', _, rs.drop k, sY, rfl⟩, fun g hg hf => ?_, ok, rfl⟩, oA.mono fun g hg => .inl (.inr hg), ?_⟩
  ·rcases hnew g hg with e | e
   ·exact hd g e hf
   ·have := h1.lt g hf
    omega
  ·rintro g (e | e)
   ·exact .inl (.inl e)
   ·exact (hnew g e).imp (fun e => .inr e) id)
 clear sY oY T4 bel4 HX HT
 go_wp2
 go_end0
 exact ⟨⟨_, rfl⟩, FIN.out⟩

end Go.Proofs.YtmmfakpphjjjfaaGreat

/- slices.Collect of what a table goes over. -/
namespace Go.Proofs.YtmmfakpphjjjfaaGreat
open Go.RowKit Go.Maps Go.Shelf
open Bm (Ov)
set_option linter.unusedVariables false
attribute [local go_sem] Oper.semAt_some

set_option maxRecDepth 100000 in
set_option maxHeartbeats 8000000 in
theorem appseq_any (B base : Nat) (w : World) (t : List Ov) (sq : SeqT B base w t) (hL : t.length ≤ 1000000) :
  Calls Tryz.prog 130 #[.slice none 0 0, .func (.func 158) #[] #[.pointer (some ⟨B, 0, none⟩)]] w fun E w' => ∃ v, E = .returned v ∧ OwnO 65 w.heap.size w' v t ∧ Below w.heap.size w w' := by
 obtain ⟨W3, hW3, sz3, b3, B3⟩ := blk_step w #[.slice none 0 0] 48
 have sq3 := sq.below b3
 have HSEQ := hide (vals_seq 5 (by omega) B base t W3 sq3 hL)
 have SQL : Hid (∀ g, SeqTB B W3 g → g < w.heap.size) := hide fun g hg => by
  obtain ⟨h1, v, h2, h3⟩ := sq
  rcases hg with rfl | ⟨u, hu, hg⟩
  ·exact blk_lt h2
  ·have c0 : W3.cell? ⟨B, 0, none⟩ = some v := (b3.cell (p := ⟨B, 0, none⟩) (blk_lt h2)).trans (blk_cell h2 0 rfl)
   rw [c0] at hu
   cases hu
   exact (h3.block g hg).2
 have HO3 := hide B3
 have Hb3 := hide b3
 have hob : w.heap.size < W3.heap.size := by omega
 have hszz := hide sz3
 have HKN : Hid (∀ W W', Out (fun g => g = w.heap.size) W3 W → Out (fun g => g = w.heap.size) W3 W' → Kn (SeqTB B W3) W W') := hide fun W W' h1 h2 g hg => by
  have q2 := SQL.out g hg
  have hne : ¬ g = w.heap.size := by omega
  rw [h1.block g (by omega) hne, h2.block g (by omega) hne]
 clear sq sq3 B3 b3 sz3
 refine (callsIn_wide (n := 6)).1 ?_
 refine callsIn_of_wp_marks Tryz.func130 rfl trivial ?_ rfl
 simp only [Tryz.ntmps130, List.size_toArray, List.length_cons, List.length_nil, Nat.reduceAdd, Nat.reduceSub, Array.replicate_succ, Array.replicate_zero, List.push_toArray, List.append_toArray, List.nil_append, List.cons_append]
 gi_wp2_with fail
 apply wpIn_rangeFunc_ownH rfl (by omega) (gf := 158) (lb := #[.pointer (some ⟨B, 0, none⟩)]) rfl trivial (enters_of Tryz.func158 (by kernel_rfl) rfl) (encs := fun x : Nx t.length => #[ovv (pt t x)]) (Kp := Kn (SeqTB B W3)) (S := fun xs => xs = upn t.length t.length) (Sp := fun pre => ∃ k, k ≤ t.length ∧ pre = upn t.length k) (N := t.length) (w0 := W3) HSEQ.out Kn.trans (kn_b (fun g hg => by have := SQL.out g hg; omega)) (Below.refl _ _) (fun _ => rfl)
  (fun pre W => RI w.heap.size W3 (pts t pre) W)
  (fun c pre W => False)
  (fun s X Y row hs hg hr => hs.grown hob hg hr)
  (fun c s X Y row hs hg hr => hs)
  ⟨.slice none 0 0, HO3.out, OwnO.nil _ _ _, Out.refl _ _⟩
  (fun x a' W => ∃ q, a' = { tmps := #[.slice none 0 0, .func (.func 158) #[] #[.pointer (some ⟨B, 0, none⟩)], .pointer (some ⟨w.heap.size, 0, none⟩), undef, .slice none 0 0, .pointer (some ⟨q, 0, none⟩), .func (.func 158) #[] #[.pointer (some ⟨B, 0, none⟩)], ovv (pt t x), undef, undef, undef, undef, undef], defers := [] } ∧ W.heap[q]? = some (.cells #[.bool (pt t x).p, .string (pt t x).k, .string (pt t x).v] 65 (0, 0)))
  (fun x a' s X Y row hs hg hr => by
   obtain ⟨q, h1, h2⟩ := hs
   refine ⟨q, h1, (hg.block q (blk_lt h2) fun e => ?_).trans h2⟩
   obtain ⟨_, o, h3, h4⟩ := hr q e.symm
   rw [h2] at h3
   cases h3
   simp [Obj.isCells] at h4)
 case hassign =>
  rintro l0 pre x W K hI hK
  obtain ⟨o, ho⟩ : ∃ o, pt t x = o := ⟨_, rfl⟩
  rw [ho] at hK ⊢
  unfold ovv at hK ⊢
  obtain ⟨V, hV, szV, bV, BV⟩ := blk_step W #[.bool o.p, .string o.k, .string o.v] 65
  have hI2 : RI w.heap.size W3 (pts t pre) V := by rw [← hV]; exact hI.grown hob (World.grownBy_alloc _ _ none) (fun r e => by cases e)
  have hO1 : Out (fun g => g = w.heap.size) W3 W := by obtain ⟨_, _, _, h⟩ := hI; exact h
  have hO2 : Out (fun g => g = w.heap.size) W3 V := by obtain ⟨_, _, _, h⟩ := hI2; exact h
  have HKK := hide (hK _ V ((KeepsOthers.from ⟨bV.size, fun k o hk _ => (bV.block k (blk_lt hk)).trans hk⟩ _)) (HKN.out _ _ hO1 hO2) hI2 ⟨W.heap.size, rfl, BV⟩)
  clear hK hI hI2 hO1 hO2 bV BV
  gi_wp2
  exact HKK.out
 case hbody =>
  rintro l0 pre x a' W _ _ ⟨v, h1, h2, h3⟩ ⟨q, rfl, hq⟩ hlt0
  have hlen : (pts t pre).length = pre.length := pts_len t pre
  obtain ⟨ao, cap, hv, _, _⟩ := h2.is.shape
  rw [hlen] at hv
  have hW3s := h3.size
  have c1 := blk_cell h1 0 rfl
  have q0 := blk_cell hq 0 rfl
  have q1 := blk_cell hq 1 rfl
  have q2 := blk_cell hq 2 rfl
  have hsn := pts_snoc t pre x
  obtain ⟨o, ho⟩ : ∃ o, pt t x = o := ⟨_, rfl⟩
  rw [ho] at q0 q1 q2 hsn ⊢
  obtain ⟨V, hV, szV, bV, ownV⟩ := ops_step 65 W #[.bool o.p, .string o.k, .string o.v] 1 [o] rfl rfl (by simp [maxLen])
  have own2 := h2.below bV
  have cV := (ownV.is)
  have hcells : ∀ j u, (ocells [o])[j]? = some u → V.cell? ((⟨W.heap.size, 0, none⟩ : Addr).add j) = some u := by
   rcases cV with ⟨h, _⟩ | ⟨ad, cp, h, _, _, hc⟩
   ·cases h
   ·cases h
    exact hc
  have hb40 : ((pts t pre).length + [o].length) * 40 ≤ 140737488355328 := by rw [hlen]; simp; omega
  have hzV : W3.heap.size ≤ V.heap.size := by omega
  have HFIN : Hid (∀ v' w', OwnO 65 W3.heap.size w' v' (pts t pre ++ [o]) → Below W3.heap.size V w' → V.grownBy w' v.ownBlock → (w'.cell? ⟨w.heap.size, 0, none⟩ = some v ∧ w'.frozen? ⟨w.heap.size, 0, none⟩ = false) ∧ KeepsFrom W3.heap.size W (w'.setCell ⟨w.heap.size, 0, none⟩ v') ∧ Kn (SeqTB B W3) W (w'.setCell ⟨w.heap.size, 0, none⟩ v') ∧ RI w.heap.size W3 (pts t (pre ++ [x])) (w'.setCell ⟨w.heap.size, 0, none⟩ v')) := hide fun v' w' ho' hb' hg' => by
   obtain ⟨r1, r2⟩ := RI.app hob hW3s h1 h3 bV ho' hb'
   have hO2 : Out (fun g => g = w.heap.size) W3 (w'.setCell ⟨w.heap.size, 0, none⟩ v') := by obtain ⟨_, _, _, h⟩ := r1; exact h
   refine ⟨⟨blk_cell r2 0 rfl, blk_froz r2 0⟩, ?_, HKN.out _ _ h3 hO2, by rw [hsn]; exact r1⟩
   have k1 : KeepsOthers W V := ⟨bV.size, fun k o hk _ => (bV.block k (blk_lt hk)).trans hk⟩
   have k2 : KeepsOthers V w' := grown_ko hg' fun g hg => by obtain ⟨cs, fr, h⟩ := own2.cel hg; exact ⟨cs, _, fr, h⟩
   exact ((k1.trans k2).trans (KeepsOthers.setCell _ _ _)).from _
  have hinf := Tryz.info65
  have HV := hide hv
  rw [hv] at c1 own2
  clear h2 h3 h1 hq hsn hlen bV ownV cV hv
  gi_wp2_with (gi_at_builtin; refine wpListIn_append_ops rfl (.tmp 8) (.tmp 10) 48 rfl 65 W3.heap.size Tryz.underlying48 hinf _ (pts t pre) rfl own2 ⟨W.heap.size, 0, none⟩ [o] 1 rfl hcells hb40 hzV ?_)
  intro v' w' ho' hb' hg'
  obtain ⟨ao2, cap2, hsh2, _, _⟩ := ho'.is.shape
  obtain ⟨L2, hL2⟩ : ∃ L2, (pts t pre ++ [o]).length = L2 := ⟨_, rfl⟩
  rw [hL2] at hsh2
  clear hL2
  subst hsh2
  have HH := hide (HFIN.out _ w' ho' hb' (by rw [HV.out]; exact hg'))
  have cz := HH.out.1.1
  have fz := HH.out.1.2
  rw [HV.out] at cz
  clear ho' hb' hg' c1 q0 q1 q2 own2 hcells
  gi_wp2
  exact HH.out.2
 case hdone =>
  rintro D xs W hD rfl ⟨v, h1, h2, h3⟩ hK
  rw [pts_all] at h2
  have c1 := blk_cell h1 0 rfl
  have hE : Hid (OwnO 65 w.heap.size W v t ∧ Below w.heap.size w W) := hide ⟨h2.rebase (by omega), Hb3.out.trans (h3.below (fun g hg => by omega) (by omega))⟩
  have HKD := hide hK
  have hD' : w.heap.size ≤ D := by omega
  clear h1 h2 h3 hK
  gi_wp2
  refine ⟨by simp, .inl ⟨_, _, rfl, run_takeDeferred HKD.out, ?_⟩⟩
  obtain ⟨f1, f2⟩ := fin_put hE.out hD' HKD.out
  refine ⟨v, ?_, v, rfl, f1, f2⟩
  simp [results, Tryz.results130, go_sem]
 case hstop =>
  rintro D c pre W hD _ hf hK
  exact hf.elim

theorem collect_any (B base : Nat) (w : World) (t : List Ov) (sq : SeqT B base w t) (hL : t.length ≤ 1000000) :
  Calls Tryz.prog 91 #[.func (.func 158) #[] #[.pointer (some ⟨B, 0, none⟩)]] w fun E w' => ∃ v, E = .returned v ∧ OwnO 65 w.heap.size w' v t ∧ Below w.heap.size w w' := by
 have HA := hide (appseq_any B base w t sq hL)
 clear sq
 go_enter Tryz.func91, Tryz.ntmps91
 go_wp2_with fail
 refine HA.out.mono ?_
 rintro E w1 ⟨v, rfl, o1, b1⟩
 have O1 := hide o1
 obtain ⟨a, k, hv, _, _⟩ := o1.is.shape
 subst hv
 clear o1
 go_wp2
 go_ret
 exact ⟨_, rfl, O1.out, b1⟩

end Go.Proofs.YtmmfakpphjjjfaaGreat

/- Len of a table. -/
namespace Go.Proofs.YtmmfakpphjjjfaaGreat
open Go.RowKit Go.Maps
open Bm (Ov)
set_option linter.unusedVariables false

theorem tlen_any (p b : Nat) (w : World) (t : List Ov) (h : Tb p b w t) :
  Calls Tryz.prog 90 #[.pointer (some ⟨p, 0, none⟩)] w fun E w' => E = .returned (.int .i64 t.length) ∧ w = w' := by
 have hc := h.cell
 have hl := fun ty => h.own.len Tryz.underlying124 ty
 rw [Tm.dat_size] at hl
 have HM := hide (tmade_any p b w hc)
 clear h
 go_enter Tryz.func90, Tryz.ntmps90
 go_wp2_with fail
 refine HM.out.mono ?_
 rintro E w' ⟨rfl, rfl⟩
 go_wp2
 go_ret
 exact ⟨rfl, rfl⟩

end Go.Proofs.YtmmfakpphjjjfaaGreat
