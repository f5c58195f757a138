/- Texts of one layer, one behind the other. -/
import Derived.Test.YtfnaeblbodfekaaGN
import Derived.Test.YtfnaeblbodfekaaGQ
import Derived.Test.YtfnaeblbodfekaaGR
import Derived.Deep.RegionHeld3
/- TakeCalls: the walk. -/
namespace Go.Proofs.Ytfnaeblbodfekaa
open Go.RowKit
set_option linter.unusedVariables false

theorem keepT_put {w w' : World} {R : Nat} {cs : Array Value} {t : TypeId} {fr : Nat × Nat} (hR : w.heap[R]? = some (.cells cs t fr)) (hg : w.grownBy w' (some R)) : KeepT t w w' := by
  intro g cs' t' fr' hc ht
  refine (hg.block g (blk_lt hc) fun e1 => ?_).trans hc
  have e2 := Option.some.inj e1
  subst e2
  rw [hR] at hc
  simp at hc
  exact ht hc.2.1.symm

/-- What LentCommits has made; its blocks lie ahead of s. -/
structure Lc1 (B s : Nat) (w : World) (vf : Value) (r ru : List Cw) : Prop where
  own : OwnR 50 B w vf (ru ++ [behC, behC, behC])
  is : cvs ru = cvs r
  len : LentR B w ru
  ap : ApC ru
  lt : Oc.Lt vf ru s

theorem Lc1.below {B s : Nat} {w w' : World} {vf : Value} {r ru : List Cw} (h : Lc1 B s w vf r ru) (hb : Below w.heap.size w w') : Lc1 B s w' vf r ru := ⟨h.own.below hb, h.is, h.len.below hb, h.ap, h.lt⟩
theorem Lc1.keep {B s : Nat} {w w' : World} {vf : Value} {r ru : List Cw} (h : Lc1 B s w vf r ru) (k : KeepT 30 w w') : Lc1 B s w' vf r ru := ⟨row_keepT h.own k (by decide), h.is, fun c hc => (h.len c hc).keepT k (by decide), h.ap, h.lt⟩
theorem Lc1.mono {B s t : Nat} {w : World} {vf : Value} {r ru : List Cw} (h : Lc1 B s w vf r ru) (hst : s ≤ t) : Lc1 B t w vf r ru := ⟨h.own, h.is, h.len, h.ap, h.lt.mono hst⟩
theorem lc1_of {B b : Nat} {w : World} {vf : Value} {r ru : List Cw} (h1 : OwnR 50 b w vf (ru ++ [behC, behC, behC])) (h2 : cvs ru = cvs r) (h3 : LentR b w ru) (h4 : ApC ru) (hB : B ≤ b) : Lc1 B w.heap.size w vf r ru :=
  ⟨h1.rebase hB, h2, h3.reb hB, h4, fun b hb => (World.ownsRow.lt h1 b hb).2, fun c hc b hb => ((h3 c hc).ownO.block b hb).2⟩

theorem LentM.keep {base : Nat} {w w' : World} {m : Mw} {g c h d : Nat} {rs : List Cw} (k : LentM base w m g c h d rs) (hk : KeepT 30 w w') : LentM base w' m g c h d rs := ⟨k.c3, k.d3, row_keepT k.s hk (by decide), row_keepT k.r hk (by decide), k.e, fun c hc => (k.l c hc).keepT hk (by decide)⟩

/-- What the two lent ones are. -/
structure Lent2 (B : Nat) (w0 w : World) (vf : Value) (R : Nat) (r : List Cw) (m : Mw) (s : Nat) (ru : List Cw) (g c h d : Nat) (rs : List Cw) : Prop where
  com : Lc1 B s w vf r ru
  ge : B ≤ s
  msg : LentM s w m g c h d rs
  ap : ApC rs
  blk : w.heap[R]? = some (.cells #[.int .i64 m.k, .int .i64 m.e, .int .u8 m.r, .int .i64 m.n, .slice (some ⟨g, 0, none⟩) m.ss.length c, .int .i64 m.f, .int .i64 m.p, .slice (some ⟨h, 0, none⟩) m.cs.length d] 30 (0, 0))
  bel : Below B w0 w

/-- The message is stored in a block that was made ahead. -/
theorem lent2_put {B R s : Nat} {w0 w w' : World} {vf : Value} {r ru : List Cw} {m : Mw} {g c h d : Nat} {rs : List Cw} {x : Array Value} (A : Lc1 B s w vf r ru) (hs : B ≤ s) (X : LentM s w m g c h d rs) (ap : ApC rs) (hR : w.heap[R]? = some (.cells x 30 (0, 0))) (hg : w.grownBy w' (some R)) (hb : w'.heap[R]? = some (.cells #[.int .i64 m.k, .int .i64 m.e, .int .u8 m.r, .int .i64 m.n, .slice (some ⟨g, 0, none⟩) m.ss.length c, .int .i64 m.f, .int .i64 m.p, .slice (some ⟨h, 0, none⟩) m.cs.length d] 30 (0, 0))) (bel : Below B w0 w') : Lent2 B w0 w' vf R r m s ru g c h d rs :=
  ⟨A.keep (keepT_put hR hg), hs, X.keep (keepT_put hR hg), ap, hb, bel⟩

/-- .. or in one that is made for it. -/
theorem lent2_new {B R s : Nat} {w0 w w' : World} {vf : Value} {r ru : List Cw} {m : Mw} {g c h d : Nat} {rs : List Cw} (A : Lc1 B s w vf r ru) (hs : B ≤ s) (X : LentM s w m g c h d rs) (ap : ApC rs) (hn : Below w.heap.size w w') (hb : w'.heap[R]? = some (.cells #[.int .i64 m.k, .int .i64 m.e, .int .u8 m.r, .int .i64 m.n, .slice (some ⟨g, 0, none⟩) m.ss.length c, .int .i64 m.f, .int .i64 m.p, .slice (some ⟨h, 0, none⟩) m.cs.length d] 30 (0, 0))) (bel : Below B w0 w') : Lent2 B w0 w' vf R r m s ru g c h d rs :=
  ⟨A.below hn, hs, X.below hn, ap, hb, bel⟩

theorem ei_and18 {w : World} {g : Nat} {a b c d e f h i : Value} (k : Ei w g a b c d e f h i) : (w.cell? ⟨g, 0, none⟩ = some a ∧ w.cell? ⟨g, 1, none⟩ = some b ∧ w.cell? ⟨g, 2, none⟩ = some c ∧ w.cell? ⟨g, 3, none⟩ = some d ∧ w.cell? ⟨g, 4, none⟩ = some e ∧ w.cell? ⟨g, 5, none⟩ = some f ∧ w.cell? ⟨g, 6, none⟩ = some h ∧ w.cell? ⟨g, 7, none⟩ = some i) :=
  ⟨k.c0, k.c1, k.c2, k.c3, k.c4, k.c5, k.c6, k.c7⟩

theorem Tkd.undrew {w w' : World} {a : Option Addr} {k : Nat} {cs : List Cw} {l : List Cm.Cv} (h : Tkd w.drew w' a k cs l) : Tkd w w' a k cs l := ⟨h.sh, h.is, ((Below.refl _ _).drew).trans h.bel⟩

theorem ops_eq18 {rs : List Cw} {l : List Cm.Cv} (he : cvs rs = l) {n : Nat} (hf : ∀ c ∈ l, c.l.length ≤ n) : ∀ c ∈ rs, c.l.length ≤ n := fun c hc => by
  have : c.c ∈ l := by rw [← he]; exact List.mem_map_of_mem hc
  exact hf _ this

theorem tk_in (c e : Int) (l : List Cm.Cv) (m : Mm.Msg) : (Tak.tk c e l m).length ≤ m.cs.length ∧ ∀ x ∈ Tak.tk c e l m, x ∈ m.cs := by
  unfold Tak.tk
  split
  · exact ⟨List.length_filter_le _ _, fun x hx => (List.mem_filter.1 hx).1⟩
  · exact ⟨by simp, fun x hx => by simp at hx⟩

theorem lentM_oc {s : Nat} {w : World} {m : Mw} {g c h d : Nat} {rs : List Cw} (k : LentM s w m g c h d rs) (ap : ApC rs) (hi : IsM w m) (hf : FitM m) (hl : m.cs.length ≤ 1000) (ho : ∀ c ∈ rs, c.l.length ≤ 1000) : Oc s w (.slice (some ⟨h, 0, none⟩) m.cs.length d) rs := by
  have hn : rs.length = m.cs.length := cvs_len k.e
  refine ⟨?_, fun c hc => (k.l c hc).ownO, fun c hc => ((k.l.inC k.e hi.c.2) c hc).2, ap, by omega, ho, fit_same k.e hf.fc⟩
  have q := k.r
  unfold OwnR at q ⊢
  rw [show (rs ++ [behC, behC, behC]).length = m.cs.length + 3 by rw [List.length_append, hn]; rfl] at q
  have q2 := own_cut q m.cs.length (by omega)
  rw [← ccells_take, List.take_left' hn] at q2
  rw [hn]
  exact q2

theorem lentM_le {s : Nat} {w : World} {m : Mw} {g c h d : Nat} {rs : List Cw} (k : LentM s w m g c h d rs) : s ≤ w.heap.size := by
  have := World.ownsRow.lt k.r h rfl
  omega

theorem sh_oc {b : Nat} {w : World} {v : Value} {cs : List Cw} {l : List Cm.Cv} (h : ShS b w v cs) (he : cvs cs = l) (hl : l.length ≤ 1000) (ho : ∀ c ∈ l, c.l.length ≤ 1000) : Oc b w v cs := ⟨h.c, h.o, h.i, h.ap, by rw [← cvs_n, he]; exact hl, ops_eq18 he ho, h.f⟩

theorem owns_ge {m bl base : Nat} {w : World} {vs : Nat → Value} {zs : Nat → List Cw} (h : ListsC m bl base w vs zs) (b : Nat) (hb : OwnsC m vs zs b) : base ≤ b := by
  rcases hb with ⟨i, hi, e⟩ | ⟨i, hi, c, hc, e⟩
  · exact (World.ownsRow.lt (h.own i hi) b e).1
  · exact (World.ownsRow.lt (h.ops i hi c hc) b e).1

theorem row_type {w : World} {b e k n g : Nat} {v : Value} {xs : List Value} (h : w.ownsRow b e k v n xs) (hg : v.ownBlock = some g) : ∃ cs, w.heap[g]? = some (.cells cs e (0, 0)) := by
  rcases h.2 with ⟨rfl, _⟩ | ⟨g1, cap, cur, rfl, _, hh, _⟩
  · simp [Value.ownBlock] at hg
  · simp [Value.ownBlock] at hg
    subst hg
    exact ⟨_, hh⟩

/-- A message's block is none of the lists'. -/
theorem owns_blk {m bl base : Nat} {w w' : World} {vs : Nat → Value} {zs : Nat → List Cw} (h : ListsC m bl base w vs zs) (ho : Out (OwnsC m vs zs) w w') {R : Nat} {x : Array Value} (hR : w.heap[R]? = some (.cells x 30 (0, 0))) : w'.heap[R]? = some (.cells x 30 (0, 0)) := by
  refine (ho.block R (blk_lt hR) ?_).trans hR
  rintro (⟨i, hi, e⟩ | ⟨i, hi, c, hc, e⟩)
  · obtain ⟨cs, q⟩ := row_type (h.own i hi) e
    rw [q] at hR
    simp at hR
  · obtain ⟨cs, q⟩ := row_type (h.ops i hi c hc) e
    rw [q] at hR
    simp at hR

set_option maxRecDepth 100000 in
set_option maxHeartbeats 16000000 in
theorem takeCalls_w (e : Int) (v : Value) (r : List Cw) (m : Mw) (k : Int) (w : World) (he : In64 e) (h : IsC w v r) (hf : FitC r) (hl : r.length ≤ 140737488355328) (hm : IsM w m) (fm : FitM m) (hk : In64 k) :
    Calls Try.prog 4 #[.int .i64 e, v, mv m, .int .i64 k] w fun E w' => E = .returned (.bool true) ∧ Below w.heap.size w w' := by
  obtain ⟨ao, cap, hvl, _, _⟩ := h.1.shape
  obtain ⟨sa, so, hvs, _, _⟩ := hm.s.shape
  obtain ⟨ca, co, hvc, _, _⟩ := hm.c.1.shape
  have HMV : Hid (mv m = .agg #[.int .i64 m.k, .int .i64 m.e, .int .u8 m.r, .int .i64 m.n, .slice sa m.ss.length so, .int .i64 m.f, .int .i64 m.p, .slice ca m.cs.length co]) := hide (mv_eq hvs hvc)
  obtain ⟨wa, hwa, sza, bela, hA⟩ := newm' w m hvs hvc
  have HEI : Hid (∀ W, Below wa.heap.size wa W → Ei W w.heap.size (.int .i64 m.k) (.int .i64 m.e) (.int .u8 m.r) (.int .i64 m.n) (.slice sa m.ss.length so) (.int .i64 m.f) (.int .i64 m.p) (.slice ca m.cs.length co)) := hide fun W hb => (hA.below hb).ei' hvs hvc
  rw [HMV.out]
  have HI := hide h
  have HF := hide hf
  have HM := hide hm
  have FM := hide fm
  have HEK := hide (And.intro he hk)
  have BA := hide bela
  rw [hvl] at HI
  subst hvl
  have HMC : Hid (∀ W, Below w.heap.size w W → IsC W (.slice ca m.cs.length co) m.cs) := hide fun W hb => hvc ▸ hm.c.below hb
  obtain ⟨d0, d1, d2, d3, d4, d5, d6, d7⟩ := HEI.out _ (Below.refl _ _)
  clear h hf hm fm he hk hA bela hvs hvc d0 d1 d2 d3 d4 d5 d6 d7
  go_enter Try.func4, Try.ntmps4
  go_wp2_with fail
  refine (lives18_any _).mono ?_
  rintro E w1 ⟨rfl, b1⟩
  have BA1 := hide b1
  have B1 := hide (BA.out.trans (b1.mono BA.out.size))
  have SML := hide (small18_any _ r w1 (HI.out.below B1.out) hl)
  clear b1 hwa
  go_wp2_with fail
  refine SML.out.mono ?_
  rintro E w2 ⟨⟨bs, rfl, hbs⟩, rfl⟩
  clear SML
  obtain ⟨d0, d1, d2, d3, d4, d5, d6, d7⟩ := HEI.out _ BA1.out
  cases bs with
  | false =>
    go_wp2
    go_ret
    exact ⟨rfl, B1.out⟩
  | true =>
  have HS1 := hide (hbs rfl)
  have SML := hide (small18_any _ m.cs w1 (HMC.out _ B1.out) FM.out.lc)
  clear hbs
  go_wp2_with fail
  refine SML.out.mono ?_
  rintro E w2 ⟨⟨bs, rfl, hbs⟩, rfl⟩
  clear SML
  cases bs with
  | false =>
    go_wp2
    go_ret
    exact ⟨rfl, B1.out⟩
  | true =>
  have HS2 := hide (hbs rfl)
  clear hbs
  by_cases h40 : 40 < m.ss.length
  · have h40' : (40 : Int) < m.ss.length := by omega
    go_wp2
    go_ret
    exact ⟨rfl, B1.out⟩
  have h40' : ¬ (40 : Int) < m.ss.length := by omega
  have HS3 : Hid (m.ss.length ≤ 40) := hide (by omega)
  have KC : Hid (∀ W, Below w1.heap.size w1 W → W.cell? ⟨w.heap.size, 0, none⟩ = some (.int .i64 m.k) ∧ W.cell? ⟨w.heap.size, 1, none⟩ = some (.int .i64 m.e) ∧ W.cell? ⟨w.heap.size, 2, none⟩ = some (.int .u8 m.r) ∧ W.cell? ⟨w.heap.size, 3, none⟩ = some (.int .i64 m.n) ∧ W.cell? ⟨w.heap.size, 4, none⟩ = some (.slice sa m.ss.length so) ∧ W.cell? ⟨w.heap.size, 5, none⟩ = some (.int .i64 m.f) ∧ W.cell? ⟨w.heap.size, 6, none⟩ = some (.int .i64 m.p) ∧ W.cell? ⟨w.heap.size, 7, none⟩ = some (.slice ca m.cs.length co)) := hide fun W hW => by
    have q := HEI.out W (BA1.out.trans (hW.mono BA1.out.size))
    exact ⟨q.c0, q.c1, q.c2, q.c3, q.c4, q.c5, q.c6, q.c7⟩
  have CC : Hid (∀ W, Below w1.heap.size w1 W → _) := hide fun W hW => lentCs_ap _ r W (HI.out.below (B1.out.trans (hW.mono B1.out.size))) HF.out (by have := HS1.out.1; omega)
  have CM : Hid (∀ W, Below w1.heap.size w1 W → _) := hide fun W hW => lentM_ap m W (HM.out.below (B1.out.trans (hW.mono B1.out.size))) FM.out (by have := HS3.out; omega) (by have := HS2.out.1; omega)
  rw [HMV.out] at CM
  obtain ⟨wz, hwz, szz, belz, hz⟩ := blk_step w1 #[.int .i64 0, .int .i64 0, .int .u8 0, .int .i64 0, .slice none 0 0, .int .i64 0, .int .i64 0, .slice none 0 0] 30
  have HZ0 := hide hz
  have b20 : Below w1.heap.size w1 w1 := Below.refl _ _
  clear hz h40
  go_wp2_with fail
  go_cut [9, 10] from 40 to 43 (fun v9 v10 wx => ∃ R s ru g c h d rs, v10 = .pointer (some ⟨R, 0, none⟩) ∧ Hid (Lent2 w1.heap.size w1 wx v9 R r m s ru g c h d rs))
  case first =>
    go_region_held3 (fun W => W.cell? ⟨w.heap.size, 0, none⟩ = some (.int .i64 m.k) ∧ W.cell? ⟨w.heap.size, 1, none⟩ = some (.int .i64 m.e) ∧ W.cell? ⟨w.heap.size, 2, none⟩ = some (.int .u8 m.r) ∧ W.cell? ⟨w.heap.size, 3, none⟩ = some (.int .i64 m.n) ∧ W.cell? ⟨w.heap.size, 4, none⟩ = some (.slice sa m.ss.length so) ∧ W.cell? ⟨w.heap.size, 5, none⟩ = some (.int .i64 m.f) ∧ W.cell? ⟨w.heap.size, 6, none⟩ = some (.int .i64 m.p) ∧ W.cell? ⟨w.heap.size, 7, none⟩ = some (.slice ca m.cs.length co)) (first | exact ⟨d0, d1, d2, d3, d4, d5, d6, d7⟩ | exact KC.out _ b20.drew | exact KC.out _ belz.drew | exact KC.out _ b3 | exact KC.out _ bz3 | exact KC.out _ b5 | exact KC.out _ bz5 | exact KC.out _ b6 | go_keep)
      (first
      | (go_at_call 13; guard_target =~ Calls _ _ _ wz.drew _; refine (CC.out _ belz.drew).mono ?_; rintro E w3 ⟨vf, ru, rfl, ownf, ef, lf, apf, bel3⟩; have s3 := bel3.size; have szd : wz.drew.heap.size = wz.heap.size := rfl; have b3 : Below w1.heap.size w1 w3 := belz.drew.trans (bel3.mono (by omega)); have hZ := (bel3.block w1.heap.size (by omega)).trans HZ0.out; have GE : Hid (w1.heap.size ≤ w1.heap.size) := hide (Nat.le_refl _); have A1 : Hid (Lc1 w1.heap.size w3.heap.size w3 vf r ru) := hide (lc1_of ownf ef lf apf (by omega)); have ZZ := hide hZ; clear bel3 ownf ef lf hZ apf)
      | (go_at_call 13; refine (CC.out _ b20.drew).mono ?_; rintro E w3 ⟨vf, ru, rfl, ownf, ef, lf, apf, bel3⟩; have s3 := bel3.size; have szd : w1.drew.heap.size = w1.heap.size := rfl; have b3 : Below w1.heap.size w1 w3 := b20.drew.trans (bel3.mono (by omega)); obtain ⟨wz3, hwz3, szz3, belz3, hz3⟩ := blk_step w3 #[.int .i64 0, .int .i64 0, .int .u8 0, .int .i64 0, .slice none 0 0, .int .i64 0, .int .i64 0, .slice none 0 0] 30; have bz3 := b3.trans (belz3.mono (by omega)); have HZ3 := hide hz3; have A1 : Hid (Lc1 w1.heap.size w3.heap.size w3 vf r ru) := hide (lc1_of ownf ef lf apf (by omega)); have A13 := hide (A1.out.below belz3); clear bel3 ownf ef lf hz3 apf)
      | (go_at_call 14; have zz0 := ZZ.out; refine (CM.out _ b3).mono ?_; rintro E w5 ⟨g, c, h, d, rs, rfl, H5⟩; rw [lent_mv]; have bel5 := H5.out.2.2; have s5 := bel5.size; have K5 := hide H5.out.1; have AP5 := hide H5.out.2.1; have b5 := b3.trans (bel5.mono b3.size); have zz := (bel5.block _ (blk_lt zz0)).trans zz0; replace A1 := hide (A1.out.below bel5); obtain ⟨w6, hw6, bV, gV, ⟨p0, p1, p2, p3, p4, p5, p6, p7⟩, fr, ⟨z0, z1, z2, z3, z4, z5, z6, z7⟩⟩ := put8 zz (.int .i64 m.k) (.int .i64 m.e) (.int .u8 m.r) (.int .i64 m.n) (.slice (some ⟨g, 0, none⟩) m.ss.length c) (.int .i64 m.f) (.int .i64 m.p) (.slice (some ⟨h, 0, none⟩) m.cs.length d); have f0 := fr 0; have f1 := fr 1; have f2 := fr 2; have f3 := fr 3; have f4 := fr 4; have f5 := fr 5; have f6 := fr 6; have f7 := fr 7; have b6 := below_put b5 gV GE.out b5.size; have L3 := hide (lent2_put A1.out b3.size K5.out AP5.out zz gV bV b6); clear bV gV zz H5 fr K5 AP5)
      | (go_at_call 14; guard_target =~ Calls _ _ _ wz3 _; refine (CM.out _ bz3).mono ?_; rintro E w5 ⟨g, c, h, d, rs, rfl, H5⟩; rw [lent_mv]; have bel5 := H5.out.2.2; have s5 := bel5.size; have K5 := hide H5.out.1; have AP5 := hide H5.out.2.1; have b5 := bz3.trans (bel5.mono bz3.size); have zz := (bel5.block w3.heap.size (by omega)).trans HZ3.out; have GE : Hid (w1.heap.size ≤ w3.heap.size) := hide b3.size; replace A1 := hide ((A13.out.mono belz3.size).below bel5); obtain ⟨w6, hw6, bV, gV, ⟨p0, p1, p2, p3, p4, p5, p6, p7⟩, fr, ⟨z0, z1, z2, z3, z4, z5, z6, z7⟩⟩ := put8 zz (.int .i64 m.k) (.int .i64 m.e) (.int .u8 m.r) (.int .i64 m.n) (.slice (some ⟨g, 0, none⟩) m.ss.length c) (.int .i64 m.f) (.int .i64 m.p) (.slice (some ⟨h, 0, none⟩) m.cs.length d); have f0 := fr 0; have f1 := fr 1; have f2 := fr 2; have f3 := fr 3; have f4 := fr 4; have f5 := fr 5; have f6 := fr 6; have f7 := fr 7; have b6 := below_put b5 gV GE.out b5.size; have L3 := hide (lent2_put A1.out bz3.size K5.out AP5.out zz gV bV b6); clear bV gV zz H5 fr K5 AP5)
      | (go_at_call 14; refine (CM.out _ b3).mono ?_; rintro E w5 ⟨g, c, h, d, rs, rfl, H5⟩; rw [lent_mv]; have bel5 := H5.out.2.2; have s5 := bel5.size; have K5 := hide H5.out.1; have AP5 := hide H5.out.2.1; have b5 := b3.trans (bel5.mono b3.size); replace A1 := hide (A1.out.below bel5); obtain ⟨w6, hw6, hw6', sz6, bel6, hF6, ⟨q0, q1, q2, q3, q4, q5, q6, q7⟩⟩ := new8 w5 30 (.int .i64 0) (.int .i64 0) (.int .u8 0) (.int .i64 0) (.slice none 0 0) (.int .i64 0) (.int .i64 0) (.slice none 0 0) (.int .i64 m.k) (.int .i64 m.e) (.int .u8 m.r) (.int .i64 m.n) (.slice (some ⟨g, 0, none⟩) m.ss.length c) (.int .i64 m.f) (.int .i64 m.p) (.slice (some ⟨h, 0, none⟩) m.cs.length d); have b6 := b5.trans (bel6.mono b5.size); obtain ⟨wz5, hwz5, szz5, belz5, hz5⟩ := blk_step w5 #[.int .i64 0, .int .i64 0, .int .u8 0, .int .i64 0, .slice none 0 0, .int .i64 0, .int .i64 0, .slice none 0 0] 30; have bz5 := b5.trans (belz5.mono b5.size); have L3 := hide (lent2_new A1.out b3.size K5.out AP5.out bel6 hF6 b6); clear bel6 hF6 hwz5 hz5 H5 K5 AP5))
    all_goals
      go_wp2_with fail
      go_meet
      exact ⟨_, _, _, _, _, _, _, _, rfl, L3⟩
  case rest =>
    obtain ⟨R, s, ru, g, c, h, d, rs, rfl, L3⟩ := hcut
    obtain ⟨w3, hw3⟩ : ∃ x, x = wc := ⟨_, rfl⟩
    rw [← hw3] at L3 ⊢
    have B3 := hide L3.out.bel
    have BW3 := hide (B1.out.trans (L3.out.bel.mono B1.out.size))
    have hru : ru.length = r.length := by rw [← cvs_n, L3.out.com.is, cvs_n]
    obtain ⟨vs, hsl, os3, hob, sl, sc, hvs⟩ := ownR_cut L3.out.com.own r.length (by rw [List.length_append]; omega) (by rw [List.length_append]; simp)
    rw [List.take_left' hru] at os3
    have HS4 : Hid (∀ c ∈ cvs r, c.l.length ≤ 40) := hide fun c hc => by
      obtain ⟨d, hd, rfl⟩ := List.mem_map.1 hc
      exact HS1.out.2 d hd
    have HS5 : Hid (∀ c ∈ cvs m.cs, c.l.length ≤ 40) := hide fun c hc => by
      obtain ⟨d, hd, rfl⟩ := List.mem_map.1 hc
      exact HS2.out.2 d hd
    have OC3 : Hid (Oc w1.heap.size w3 vs ru) := hide ⟨os3, fun c hc => (L3.out.com.len c hc).ownO, fun c hc => ((L3.out.com.len.inC L3.out.com.is (HI.out.below BW3.out).2) c hc).2, L3.out.com.ap, by have := HS1.out.1; omega, fun c hc => Nat.le_trans (ops_eq18 L3.out.com.is HS4.out c hc) (by omega), fit_same L3.out.com.is HF.out⟩
    have OL3 : Hid (Oc s w3 (.slice (some ⟨h, 0, none⟩) m.cs.length d) rs) := hide (lentM_oc L3.out.msg L3.out.ap (HM.out.below BW3.out) FM.out (by have := HS2.out.1; omega) (fun c hc => Nat.le_trans (ops_eq18 L3.out.msg.e HS5.out c hc) (by omega)))
    obtain ⟨fa, fk, hvf, _, _⟩ := L3.out.com.own.row.shape
    have hfl : (ru ++ [behC, behC, behC]).length = r.length + 3 := by rw [List.length_append, hru]; rfl
    rw [hfl] at hvf
    have LT3 : Hid (Oc.Lt vs ru s) := hide ⟨fun b hb => L3.out.com.lt.1 b (by rw [← hob]; exact hb), L3.out.com.lt.2⟩
    subst hvs
    rw [hvf] at hsl L3
    subst hvf
    have IV := hide (lentM_is L3.out.msg (HM.out.below BW3.out))
    have FV := hide (lentM_fit L3.out.msg FM.out)
    have EM := hide (lentM_m L3.out.msg)
    obtain ⟨ck, hck⟩ : ∃ c, Mm.Ck m.m c := by
      by_cases hok : Mm.Ok m.m
      · exact ⟨0, .inl ⟨rfl, hok⟩⟩
      · exact ⟨2, .inr ⟨rfl, hok⟩⟩
    obtain ⟨z1, hz1⟩ : ∃ z, Tak.tkE ck e (cvs r) m.m = z := ⟨_, rfl⟩
    obtain ⟨t1, ht1⟩ : ∃ z, Tak.tk ck e (cvs r) m.m = z := ⟨_, rfl⟩
    obtain ⟨n1, hn1⟩ : ∃ z, Tak.knV ck e k m.m = z := ⟨_, rfl⟩
    obtain ⟨o1, ho1⟩ : ∃ z, Tak.knF ck e m.m = z := ⟨_, rfl⟩
    obtain ⟨z2, hz2⟩ : ∃ z, Tak.knE ck e m.m = z := ⟨_, rfl⟩
    have TI : Hid (t1.length ≤ 1000 ∧ ∀ c ∈ t1, c.l.length ≤ 1000) := hide (by
      have q := tk_in ck e (cvs r) m.m
      rw [ht1] at q
      have q1 : m.m.cs.length = m.cs.length := cvs_n _
      have q2 := HS2.out.1
      exact ⟨by omega, fun c hc => Nat.le_trans (HS5.out c (q.2 c hc)) (by omega)⟩)
    have HA1 : Hid (∀ W, Below w3.heap.size w3 W → Calls Try.prog 8 #[.int .i64 e, .slice sl r.length sc, (.agg #[.int .i64 m.k, .int .i64 m.e, .int .u8 m.r, .int .i64 m.n, .slice (some ⟨g, 0, none⟩) m.ss.length c, .int .i64 m.f, .int .i64 m.p, .slice (some ⟨h, 0, none⟩) m.cs.length d])] W (TkR W z1 t1)) := hide fun W hW => by
      have q := ptake_any e (.slice sl r.length sc) ru (lentOf m g c h d rs) ck W ⟨(OC3.out.below hW).c.row, fun c hc => ⟨((OC3.out.below hW).o c hc).is, OC3.out.i c hc⟩⟩ OC3.out.fit (by have := OC3.out.len; omega) (IV.out.below hW) FV.out (by rw [EM.out]; exact hck) HEK.out.1
      rw [EM.out, L3.out.com.is, hz1, ht1, lent_mv] at q
      exact q
    have HA2 : Hid (∀ W, Below w3.heap.size w3 W → Calls Try.prog 15 #[.int .i64 e, .slice ao r.length cap, (.agg #[.int .i64 m.k, .int .i64 m.e, .int .u8 m.r, .int .i64 m.n, .slice sa m.ss.length so, .int .i64 m.f, .int .i64 m.p, .slice ca m.cs.length co])] W (TkR W z1 t1)) := hide fun W hW => by
      have q := takeR_any e _ r m ck W (HI.out.below (BW3.out.trans (hW.mono BW3.out.size))) HF.out (by have := HS1.out.1; omega) (HM.out.below (BW3.out.trans (hW.mono BW3.out.size))) FM.out hck
      rw [hz1, ht1, HMV.out] at q
      exact q
    have HA3 : Hid (∀ W, Below w3.heap.size w3 W → Calls Try.prog 10 #[.int .i64 e, .int .i64 k, (.agg #[.int .i64 m.k, .int .i64 m.e, .int .u8 m.r, .int .i64 m.n, .slice (some ⟨g, 0, none⟩) m.ss.length c, .int .i64 m.f, .int .i64 m.p, .slice (some ⟨h, 0, none⟩) m.cs.length d])] W fun E w' => E = .returned (.tuple #[.int .i64 n1, .bool o1, .int .i64 z2]) ∧ Below W.heap.size W w') := hide fun W hW => by
      have q := pknown_any e k (lentOf m g c h d rs) ck W (IV.out.below hW) FV.out (by rw [EM.out]; exact hck) HEK.out.1 HEK.out.2
      rw [EM.out, hn1, ho1, hz2, lent_mv] at q
      exact q
    have HA4 : Hid (∀ W, Below w3.heap.size w3 W → Calls Try.prog 16 #[.int .i64 e, .int .i64 k, (.agg #[.int .i64 m.k, .int .i64 m.e, .int .u8 m.r, .int .i64 m.n, .slice sa m.ss.length so, .int .i64 m.f, .int .i64 m.p, .slice ca m.cs.length co])] W fun E w' => E = .returned (.tuple #[.int .i64 n1, .bool o1, .int .i64 z2]) ∧ Below W.heap.size W w') := hide fun W hW => by
      have q := knownR_any e k m ck W (HM.out.below (BW3.out.trans (hW.mono BW3.out.size))) FM.out hck
      rw [hn1, ho1, hz2, HMV.out] at q
      exact q
    have KL : Hid (∀ W, Below w3.heap.size w3 W → Ei W R (.int .i64 m.k) (.int .i64 m.e) (.int .u8 m.r) (.int .i64 m.n) (.slice (some ⟨g, 0, none⟩) m.ss.length c) (.int .i64 m.f) (.int .i64 m.p) (.slice (some ⟨h, 0, none⟩) m.cs.length d)) := hide fun W hW => ei_of ((hW.block R (blk_lt L3.out.blk)).trans L3.out.blk)
    have KB : Hid (∀ W, Below w3.heap.size w3 W → Ei W w.heap.size (.int .i64 m.k) (.int .i64 m.e) (.int .u8 m.r) (.int .i64 m.n) (.slice sa m.ss.length so) (.int .i64 m.f) (.int .i64 m.p) (.slice ca m.cs.length co)) := hide fun W hW => HEI.out W ((BA1.out.trans (B3.out.mono BA1.out.size)).trans (hW.mono (BA1.out.trans (B3.out.mono BA1.out.size)).size))
    have D0 : Hid (Below w3.heap.size w3 w3) := hide (Below.refl _ _)
    clear hz1 ht1 hn1 ho1 hz2 hck os3 hob hfl hwz szz belz HZ0 b20 KC CC CM d0 d1 d2 d3 d4 d5 d6 d7 hw3 IV FV EM
    obtain ⟨l0, l1, l2, l3, l4, l5, l6, l7⟩ := KL.out _ D0.out
    have b20 : Below w3.heap.size w3 w3 := Below.refl _ _
    go_wp2_with fail
    go_cut [11, 12] from 44 to 53 (fun va vb wx => ∃ a j cs, va = .slice a t1.length j ∧ vb = .int .i64 z1 ∧ Hid (Tkd w3 wx a j cs t1))
    case first =>
      go_region_held3 (fun W => W.cell? ⟨R, 0, none⟩ = some (.int .i64 m.k) ∧ W.cell? ⟨R, 1, none⟩ = some (.int .i64 m.e) ∧ W.cell? ⟨R, 2, none⟩ = some (.int .u8 m.r) ∧ W.cell? ⟨R, 3, none⟩ = some (.int .i64 m.n) ∧ W.cell? ⟨R, 4, none⟩ = some (.slice (some ⟨g, 0, none⟩) m.ss.length c) ∧ W.cell? ⟨R, 5, none⟩ = some (.int .i64 m.f) ∧ W.cell? ⟨R, 6, none⟩ = some (.int .i64 m.p) ∧ W.cell? ⟨R, 7, none⟩ = some (.slice (some ⟨h, 0, none⟩) m.cs.length d)) (first | exact ⟨l0, l1, l2, l3, l4, l5, l6, l7⟩ | exact ei_and18 (KL.out _ (D0.out.trans (b20.drew.mono D0.out.size))) | exact ei_and18 (KL.out _ bq) | go_keep)
        (first | (go_at_call 8; refine (HA1.out _ (D0.out.trans (b20.drew.mono D0.out.size))).mono ?_; intro E wq hE; obtain ⟨aq, kq, cq, rfl, TQ⟩ := hE.open; have bq : Below w3.heap.size w3 wq := D0.out.trans ((b20.drew.trans TQ.bel).mono D0.out.size); have TQ := hide TQ.undrew; clear hE))
      all_goals
        go_wp2_with fail
        go_meet
        exact ⟨_, _, _, rfl, rfl, TQ⟩
    case rest =>
    obtain ⟨a1, j1, cs1, rfl, rfl, T1⟩ := hcut
    obtain ⟨w4, hw4⟩ : ∃ x, x = wc := ⟨_, rfl⟩
    rw [← hw4] at T1 ⊢
    have D1 := hide (D0.out.trans (T1.out.bel.mono D0.out.size))
    clear l0 l1 l2 l3 l4 l5 l6 l7 b20 hw4 D0
    obtain ⟨l0, l1, l2, l3, l4, l5, l6, l7⟩ := KB.out _ D1.out
    go_wp2_with fail
    refine (HA2.out _ D1.out).mono ?_
    intro E w5 hE
    obtain ⟨a2, j2, cs2, rfl, T2⟩ := hE.open
    have D2 := hide (D1.out.trans (T2.bel.mono D1.out.size))
    have T2 := hide T2
    clear l0 l1 l2 l3 l4 l5 l6 l7 hE
    obtain ⟨l0, l1, l2, l3, l4, l5, l6, l7⟩ := KL.out _ D2.out
    have b20 : Below w5.heap.size w5 w5 := Below.refl _ _
    go_wp2_with fail
    go_cut [15, 16] from 61 to 70 (fun va vb wx => ∃ a j cs, va = .slice a t1.length j ∧ vb = .int .i64 z1 ∧ Hid (Tkd w5 wx a j cs t1))
    case first =>
      go_region_held3 (fun W => W.cell? ⟨R, 0, none⟩ = some (.int .i64 m.k) ∧ W.cell? ⟨R, 1, none⟩ = some (.int .i64 m.e) ∧ W.cell? ⟨R, 2, none⟩ = some (.int .u8 m.r) ∧ W.cell? ⟨R, 3, none⟩ = some (.int .i64 m.n) ∧ W.cell? ⟨R, 4, none⟩ = some (.slice (some ⟨g, 0, none⟩) m.ss.length c) ∧ W.cell? ⟨R, 5, none⟩ = some (.int .i64 m.f) ∧ W.cell? ⟨R, 6, none⟩ = some (.int .i64 m.p) ∧ W.cell? ⟨R, 7, none⟩ = some (.slice (some ⟨h, 0, none⟩) m.cs.length d)) (first | exact ⟨l0, l1, l2, l3, l4, l5, l6, l7⟩ | exact ei_and18 (KL.out _ (D2.out.trans (b20.drew.mono D2.out.size))) | exact ei_and18 (KL.out _ bq) | go_keep)
        (first | (go_at_call 8; refine (HA1.out _ (D2.out.trans (b20.drew.mono D2.out.size))).mono ?_; intro E wq hE; obtain ⟨aq, kq, cq, rfl, TQ⟩ := hE.open; have bq : Below w3.heap.size w3 wq := D2.out.trans ((b20.drew.trans TQ.bel).mono D2.out.size); have TQ := hide TQ.undrew; clear hE))
      all_goals
        go_wp2_with fail
        go_meet
        exact ⟨_, _, _, rfl, rfl, TQ⟩
    case rest =>
    obtain ⟨a3, j3, cs3, rfl, rfl, T3⟩ := hcut
    obtain ⟨w6, hw6⟩ : ∃ x, x = wc := ⟨_, rfl⟩
    rw [← hw6] at T3 ⊢
    have D3 := hide (D2.out.trans (T3.out.bel.mono D2.out.size))
    clear l0 l1 l2 l3 l4 l5 l6 l7 b20 hw6
    obtain ⟨l0, l1, l2, l3, l4, l5, l6, l7⟩ := KL.out _ D3.out
    go_wp2_with fail
    refine (HA3.out _ D3.out).mono ?_
    rintro E w7 ⟨rfl, b7⟩
    have D4 := hide (D3.out.trans (b7.mono D3.out.size))
    clear l0 l1 l2 l3 l4 l5 l6 l7
    obtain ⟨l0, l1, l2, l3, l4, l5, l6, l7⟩ := KB.out _ D4.out
    go_wp2_with fail
    refine (HA4.out _ D4.out).mono ?_
    rintro E w8 ⟨rfl, b8⟩
    have D5 := hide (D4.out.trans (b8.mono D4.out.size))
    have s68 : Below w6.heap.size w6 w8 := b7.trans (b8.mono b7.size)
    have s58 : Below w5.heap.size w5 w8 := T3.out.bel.trans (s68.mono T3.out.bel.size)
    have s48 : Below w4.heap.size w4 w8 := T2.out.bel.trans (s58.mono T2.out.bel.size)
    have S1 := hide (T1.out.sh.below s48)
    have S2 := hide (T2.out.sh.below s58)
    have S3 := hide (T3.out.sh.below s68)
    have LT1 : Hid (Oc.Lt (.slice a1 t1.length j1) cs1 w5.heap.size) := hide (by
      have q := T2.out.bel.size
      exact ⟨fun b hb => Nat.lt_of_lt_of_le (World.ownsRow.lt T1.out.sh.c b hb).2 q, fun c hc b hb => Nat.lt_of_lt_of_le (World.ownsRow.lt (T1.out.sh.o c hc) b hb).2 q⟩)
    have CV := hide (And.intro T1.out.is (And.intro T2.out.is T3.out.is))
    have NN : Hid (w3.heap.size ≤ w4.heap.size ∧ w4.heap.size ≤ w5.heap.size ∧ w5.heap.size ≤ w8.heap.size) := hide ⟨T1.out.bel.size, T2.out.bel.size, s58.size⟩
    clear l0 l1 l2 l3 l4 l5 l6 l7 b7 b8 s68 s58 s48 T1 T2 T3 D1 D2 D3 D4 HA1 HA2 HA3 HA4
    have ez1 : (z1 != z1) = false := by simp
    have ez2 : (z2 != z2) = false := by simp
    have en1 : (n1 != n1) = false := by simp
    have eo1 : (o1 != o1) = false := by simp
    have SC := hide (sameCs_any (.slice a1 t1.length j1) (.slice a2 t1.length j2) cs1 cs2 w8 ⟨S1.out.c.row, fun c hc => ⟨(S1.out.o c hc).is, S1.out.i c hc⟩⟩ ⟨S2.out.c.row, fun c hc => ⟨(S2.out.o c hc).is, S2.out.i c hc⟩⟩ S1.out.f S2.out.f (by rw [← cvs_n, CV.out.1]; have := TI.out.1; omega) (by rw [← cvs_n, CV.out.2.1]; have := TI.out.1; omega))
    rw [CV.out.1, CV.out.2.1, sameV_iff.2 rfl] at SC
    go_wp2_with fail
    refine SC.out.mono ?_
    rintro E w9 ⟨rfl, b9⟩
    have D6 := hide (D5.out.trans (b9.mono D5.out.size))
    have KP := hide (keptCs_yes _ _ ru r w1.heap.size w9 (L3.out.com.own.below D6.out).row L3.out.com.is (L3.out.com.len.below D6.out) (HI.out.below (BW3.out.trans (D6.out.mono BW3.out.size))) HF.out (by have := HS1.out.1; omega))
    clear SC
    go_wp2_with fail
    refine KP.out.mono ?_
    rintro E w10 ⟨rfl, b10⟩
    have D7 := hide (D6.out.trans (b10.mono D6.out.size))
    have KM := hide (keptM_yes m g c h d rs s w10 (L3.out.msg.below D7.out) (HM.out.below (BW3.out.trans (D7.out.mono BW3.out.size))) FM.out (by have := HS3.out; omega) (by have := HS2.out.1; omega))
    rw [HMV.out, lent_mv] at KM
    clear KP
    obtain ⟨l0, l1, l2, l3, l4, l5, l6, l7⟩ := KL.out _ D7.out
    obtain ⟨d0, d1, d2, d3, d4, d5, d6, d7⟩ := KB.out _ D7.out
    go_wp2_with fail
    refine KM.out.mono ?_
    rintro E w11 ⟨rfl, b11⟩
    have D8 := hide (D7.out.trans (b11.mono D7.out.size))
    have s811 : Below w8.heap.size w8 w11 := b9.trans ((b10.trans (b11.mono b10.size)).mono b9.size)
    have BW := hide (BW3.out.trans (D8.out.mono BW3.out.size))
    clear KM l0 l1 l2 l3 l4 l5 l6 l7 d0 d1 d2 d3 d4 d5 d6 d7
    have l7 := (KL.out _ D8.out).c7
    have dr : Below w11.heap.size w11 w11.drew := (Below.refl _ _).drew
    have D9 : Hid (Below w3.heap.size w3 w11.drew) := hide (D8.out.trans (dr.mono D8.out.size))
    have O1 : Oc w3.heap.size w11.drew (.slice a1 t1.length j1) cs1 := sh_oc ((S1.out.below s811).below dr) CV.out.1 TI.out.1 TI.out.2
    have O3 : Oc w5.heap.size w11.drew (.slice a3 t1.length j3) cs3 := sh_oc ((S3.out.below s811).below dr) CV.out.2.2 TI.out.1 TI.out.2
    have l3 := OL3.out.lt
    have hge := L3.out.ge
    have hs3 : s ≤ w3.heap.size := lentM_le L3.out.msg
    have LO := hide (listsC_quad O1 O3 (OC3.out.below D9.out) (OL3.out.below D9.out) (b0 := w1.heap.size) (s0 := s) (s1 := w3.heap.size) (s2 := w5.heap.size) hge hs3 (by have := NN.out; omega) LT3.out l3 LT1.out)
    have hz1 : w1.heap.size ≤ w11.heap.size := Nat.le_trans B3.out.size D8.out.size
    obtain ⟨W9, hW9⟩ : ∃ x, w11.drew.alloc (.cells #[.slice a1 t1.length j1, .slice a3 t1.length j3, .slice sl r.length sc, .slice (some ⟨h, 0, none⟩) m.cs.length d] 22) = x := ⟨_, rfl⟩
    have bW9 : Below w11.heap.size w11 W9 := by rw [← hW9]; exact dr.trans (show Below w11.drew.heap.size w11.drew _ from (Below.refl _ _).alloc (Nat.le_refl _) _)
    rw [hW9] at LO
    have AP := hide (apartC_keeps 4 w11.heap.size 4 w1.heap.size _ _ W9 (by omega) (by omega) (Nat.le_trans hz1 bW9.size) LO.out (by omega))
    clear O1 O3 l3 S1 S2 S3 ez1 ez2 en1 eo1
    go_wp2_with fail
    go_cut [8] from 123 to 132 (fun va wx => va = .bool true ∧ Hid (Below w.heap.size w wx))
    case first =>
      go_region_held3 (fun W => W.cell? ⟨R, 7, none⟩ = some (.slice (some ⟨h, 0, none⟩) m.cs.length d)) (first | exact l7 | exact cq | exact (KL.out _ D9.out).c7 | exact (KL.out _ (D8.out.trans (bW9.mono D8.out.size))).c7 | go_keep)
        (first | (go_at_call 20; refine AP.out.mono ?_; rintro E wq ⟨rfl, o5⟩; have cq := blk_cell (owns_blk LO.out o5 (((D8.out.trans (bW9.mono D8.out.size)).block R (blk_lt L3.out.blk)).trans L3.out.blk)) 7 rfl; have BQ : Hid (Below w.heap.size w wq) := hide ((BW.out.trans (bW9.mono BW.out.size)).trans (o5.below (fun b hb => Nat.le_trans B1.out.size (owns_ge LO.out b hb)) (by have := BW.out.size; have := bW9.size; omega))); clear o5))
      all_goals
        go_wp2_with fail
        go_meet
        exact ⟨rfl, BQ⟩
    case rest =>
    obtain ⟨rfl, BQ⟩ := hcut
    go_wp2
    go_ret
    exact ⟨rfl, BQ.out⟩

theorem takeCalls_walk (e : Int) (v : Value) (r : List Cw) (m : Mw) (k : Int) (w : World) (he : (Lit.int .i64 e).wf = true) (h : IsC w v r) (hf : FitC r) (hl : r.length * 40 ≤ 140737488351232) (hm : IsM w m) (fm : FitM m) (hk : (Lit.int .i64 k).wf = true) :
    Calls Try.prog 4 #[.int .i64 e, v, mv m, .int .i64 k] w fun E w' => E = .returned (.bool true) ∧ Below w.heap.size w w' := by
  have i1 := range_i64 (zs := [e]) (by simpa using he) 0
  have i2 := range_i64 (zs := [k]) (by simpa using hk) 0
  simp only [List.getElem?_cons_zero, Option.getD_some] at i1 i2
  exact takeCalls_w e v r m k w ⟨i1.1, by omega⟩ h hf (by omega) hm fm ⟨i2.1, by omega⟩

end Go.Proofs.Ytfnaeblbodfekaa
