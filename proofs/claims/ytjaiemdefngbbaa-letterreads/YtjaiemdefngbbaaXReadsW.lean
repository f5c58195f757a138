/- The walk of LetterReads. -/
import Derived.Test.YtjaiemdefngbbaaXBackW
import Derived.Test.YtjaiemdefngbbaaXx
import Derived.Test.YtjaiemdefngbbaaYc
import Derived.Test.YtjaiemdefngbbaaSap
import Derived.Deep.RegionHeld3
namespace Go.Proofs.Ytjaiemdefngbbaa
open Go.RowKit
set_option linter.unusedVariables false

theorem ei_and {w : World} {g : Nat} {a b c d e f h i : Value} (k : Ei w g a b c d e f h i) : (w.cell? ⟨g, 0, none⟩ = some a ∧ w.cell? ⟨g, 1, none⟩ = some b ∧ w.cell? ⟨g, 2, none⟩ = some c ∧ w.cell? ⟨g, 3, none⟩ = some d ∧ w.cell? ⟨g, 4, none⟩ = some e ∧ w.cell? ⟨g, 5, none⟩ = some f ∧ w.cell? ⟨g, 6, none⟩ = some h ∧ w.cell? ⟨g, 7, none⟩ = some i) :=
  ⟨k.c0, k.c1, k.c2, k.c3, k.c4, k.c5, k.c6, k.c7⟩

theorem own_types {w : World} {b e k n b' e' k' n' g : Nat} {v v' : Value} {xs xs' : List Value} (h : w.ownsRow b e k v n xs) (h' : w.ownsRow b' e' k' v' n' xs') (hne : e ≠ e') (hg : v.ownBlock = some g) : v'.ownBlock ≠ some g := by
  intro hg'
  rcases h.2 with ⟨rfl, _⟩ | ⟨g1, cap, cur, rfl, _, hh, _⟩
  · simp [Value.ownBlock] at hg
  · rcases h'.2 with ⟨rfl, _⟩ | ⟨g2, cap2, cur2, rfl, _, hh2, _⟩
    · simp [Value.ownBlock] at hg'
    · simp [Value.ownBlock] at hg hg'
      subst hg hg'
      rw [hh] at hh2
      simp at hh2
      exact hne hh2.2

theorem apc_app {l1 l2 : List Cw} {s : Nat} (h1 : ApC l1) (h2 : ApC l2) (b1 : ∀ c ∈ l1, ∀ b, c.v.ownBlock = some b → b < s) (b2 : ∀ c ∈ l2, ∀ b, c.v.ownBlock = some b → s ≤ b) : ApC (l1 ++ l2) := by
  have far : ∀ c d : Cw, c ∈ l1 → d ∈ l2 → (c.v.ownBlock = none ∨ c.v.ownBlock ≠ d.v.ownBlock) ∧ (d.v.ownBlock = none ∨ d.v.ownBlock ≠ c.v.ownBlock) := fun c d hc hd => by
    cases ec : c.v.ownBlock with
    | none => exact ⟨.inl rfl, by cases ed : d.v.ownBlock with
      | none => exact .inl rfl
      | some b => exact .inr (by simp)⟩
    | some a =>
      have x1 := b1 c hc a ec
      cases ed : d.v.ownBlock with
      | none => exact ⟨.inr (by simp), .inl rfl⟩
      | some b =>
        have x2 := b2 d hd b ed
        exact ⟨.inr (by simp; omega), .inr (by simp; omega)⟩
  intro i j c d hij hc hd
  rw [List.getElem?_append] at hc hd
  split at hc <;> split at hd
  · exact h1 i j c d hij hc hd
  · exact (far c d (List.mem_of_getElem? hc) (List.mem_of_getElem? hd)).1
  · exact (far d c (List.mem_of_getElem? hd) (List.mem_of_getElem? hc)).2
  · exact h2 _ _ c d (by omega) hc hd

/-- What is read is small. -/
structure Lit4 (q : Mw) : Prop where
  s : q.ss.length ≤ 1048576
  c : q.cs.length ≤ 4
  o : ∀ c ∈ q.cs, c.l.length ≤ 8

theorem lit_of {bs : List Int} {m' : Mm.Msg} {g : Int} {q : Mw} (h : Mm.Dc bs m' g) (e : q.m = m') : Lit4 q := by
  have e1 : q.ss = m'.ss := by rw [← e]; rfl
  have e2 : cvs q.cs = m'.cs := by rw [← e]; rfl
  have e3 : q.cs.length = m'.cs.length := by rw [← e2, cvs_length]
  rcases h with ⟨_, hok, _⟩ | ⟨_, hno, _⟩
  · obtain ⟨h1, _, _, _, _, _, h6, h7, h8⟩ := Mm.hd_ok hok
    have h4 : m'.ss.length ≤ 1048576 ∧ m'.cs.length ≤ 4 := by
      rcases hok.2.2 with ⟨k, g⟩ | ⟨k, g⟩ | ⟨k, g⟩
      · have b := (h1 (m'.ss.length : Int) (by rw [Mm.hd_1 k]; simp)).2
        have c : m'.cs.length = 0 := by rw [g.2.2.2.2.2.2]; rfl
        omega
      · have a := h7 k
        have c : m'.ss.length = 0 := by rw [g.2.2.2.2.2.2.2.2.2.2]; rfl
        omega
      · have c : m'.cs.length = 0 := by rw [g.2.2.2.2.2.2]; rfl
        have d : m'.ss.length = 0 := by rw [g.2.2.2.1]; rfl
        omega
    refine ⟨by rw [e1]; exact h4.1, by rw [e3]; exact h4.2, fun c hc => ?_⟩
    have := Mm.ok_cs hok c.c (by rw [← e2]; exact List.mem_map.2 ⟨c, hc, rfl⟩)
    exact (cfit_ok this).2.2.2
  · subst hno
    have : q.cs = [] := nil_cvs e2
    refine ⟨by rw [e1]; exact Nat.zero_le _, by rw [this]; exact Nat.zero_le _, fun c hc => by rw [this] at hc; simp at hc⟩

theorem listsC_two {base s : Nat} {w : World} {q1 q2 : Mw} (h1 : OwnM base w q1) (h2 : OwnM s w q2) (hb : base ≤ s) (b1 : ∀ b, q1.vc.ownBlock = some b → b < s) (b2 : ∀ c ∈ q1.cs, ∀ b, c.v.ownBlock = some b → b < s)
    (l1 : Lit4 q1) (l2 : Lit4 q2) (f1 : FitC q1.cs) (f2 : FitC q2.cs) :
    ListsC 2 w.heap.size base (w.alloc (.cells #[q1.vc, q2.vc] 28)) (duo q1.vc q2.vc) (duo q1.cs q2.cs) := by
  have bel : Below w.heap.size w (w.alloc (.cells #[q1.vc, q2.vc] 28)) := (Below.refl _ _).alloc (Nat.le_refl _) _
  have h1' := h1.below bel
  have h2' := (h2.below bel).rebase hb
  have two : ∀ i, i < 2 → i = 0 ∨ i = 1 := by omega
  have lt2 : ∀ b, q2.vc.ownBlock = some b → s ≤ b ∧ b < w.heap.size := World.ownsRow.lt h2.c
  have lt1 : ∀ b, q1.vc.ownBlock = some b → base ≤ b ∧ b < w.heap.size := World.ownsRow.lt h1.c
  have key : ∀ u v : Value, (∀ b d, u.ownBlock = some b → v.ownBlock = some d → b ≠ d) → u.ownBlock = none ∨ u.ownBlock ≠ v.ownBlock := by
    intro u v h
    cases hu : u.ownBlock with
    | none => exact .inl rfl
    | some b => exact .inr fun e => h b b hu e.symm rfl
  refine ⟨fun i hi => ?_, fun i hi => ?_, fun i hi => ?_, fun i hi => ?_, fun i j hi hj hne => ?_, fun i hi => ?_, fun i hi => ?_, fun i hi => ?_, fun i hi => ?_, ?_⟩
  · rcases two i hi with rfl | rfl <;> simp [duo]
  · rcases two i hi with rfl | rfl
    · exact h1'.c
    · exact h2'.c
  · rcases two i hi with rfl | rfl
    · exact h1'.o
    · exact h2'.o
  · rcases two i hi with rfl | rfl
    · exact h1.i
    · exact h2.i
  · rcases two i hi with rfl | rfl <;> rcases two j hj with rfl | rfl <;> first | exact absurd rfl hne | skip
    all_goals
      refine key _ _ fun b d hb hd => ?_
      simp only [duo] at hb hd
    · have := b1 b hb; have := lt2 d hd; omega
    · have := lt2 b hb; have := b1 d hd; omega
  · intro e
    rcases two i hi with rfl | rfl
    · have := lt1 _ e; omega
    · have := lt2 _ e; omega
  · rcases two i hi with rfl | rfl
    · have := l1.c; show q1.cs.length ≤ 10; omega
    · have := l2.c; show q2.cs.length ≤ 10; omega
  · rcases two i hi with rfl | rfl
    · exact fun c hc => by have := l1.o c hc; omega
    · exact fun c hc => by have := l2.o c hc; omega
  · rcases two i hi with rfl | rfl
    · exact f1
    · exact f2
  · have e : (List.range 2).flatMap (duo q1.cs q2.cs) = q1.cs ++ q2.cs := by simp [List.range_succ, duo]
    rw [e]
    exact apc_app h1.ap h2.ap b2 (fun c hc b e => (World.ownsRow.lt (h2.o c hc) b e).1)

theorem starts_keep {m bl base b : Nat} {W A : World} {vs : Nat → Value} {zs : Nat → List Cw} {v : Value} {l : List Sm.S} (L : ListsC m bl base W vs zs) (h : OwnS b W v l) (ho : Out (OwnsC m vs zs) W A) : OwnS b A v l :=
  row_agree h fun g hg => ho.block g (World.ownsRow.lt h g hg).2 (by
    rintro (⟨i, hi, e⟩ | ⟨i, hi, c, hc, e⟩)
    · exact own_types h (L.own i hi) (by decide) hg e
    · exact own_types h (L.ops i hi c hc) (by decide) hg e)

theorem listsS_one {b b' : Nat} {w : World} {v1 v2 : Value} {l1 l2 : List Sm.S} (h1 : OwnS b w v1 l1) (h2 : OwnS b' w v2 l2) (hlt : ∀ g, v1.ownBlock = some g → g < b') (hl : l2.length ≤ 1048576) :
    ListsS 1 w.heap.size (w.alloc (.cells #[v2] 27)) v1 (fun _ => v2) (fun _ => l2) := by
  have bel : Below w.heap.size w (w.alloc (.cells #[v2] 27)) := (Below.refl _ _).alloc (Nat.le_refl _) _
  refine ⟨fun i hi => ?_, fun i hi => (OwnG.row h2).below bel, fun i hi g hg e => ?_, fun e => ?_, fun i hi => by omega⟩
  · have : i = 0 := by omega
    subst this
    simp
  · have := hlt g hg
    have := (OwnG.lt h2 g e).1
    omega
  · have := (OwnG.lt h1 _ e).2
    omega

set_option maxRecDepth 100000 in
set_option maxHeartbeats 16000000 in
theorem letterReads_walk (vb : Value) (bs : List Int) (w : World) (hb : Is .u8 w vb bs) (hl : bs.length * 1 ≤ 140737488351232) :
    Calls Try.prog 5 #[vb] w fun e w' => e = .returned (.bool true) ∧ Below w.heap.size w w' := by
  have HB := hide hb
  obtain ⟨xo, xc, rfl, _, _⟩ := hb.shape
  have C1 := hide (lent_any _ bs w hb (by omega))
  clear hb
  go_enter Try.func5, Try.ntmps5
  by_cases h4 : 4000 < bs.length
  · have h4' : (4000 : Int) < bs.length := by omega
    go_wp2_with fail
    refine (lives_any w).mono ?_
    rintro E w2 ⟨rfl, bel2⟩
    go_wp2
    go_ret
    exact ⟨rfl, bel2⟩
  have h4' : ¬ (4000 : Int) < bs.length := by omega
  obtain ⟨m', g, hD⟩ := dc_is bs
  have HD := hide hD
  clear hD
  go_wp2_with fail
  refine C1.out.mono ?_
  rintro E w1 ⟨v1, rfl, own1, bel0w1⟩
  have szw1 := bel0w1.size
  have OF := hide own1
  have ht1 : ((bs ++ [201, 202, 203]).take bs.length) = bs := by simp
  obtain ⟨vs1, hsl1, is1⟩ := OF.out.is.slice_h Try.elemP Try.sizeP bs.length (by simp)
  rw [ht1] at is1
  have I1 := hide is1
  have CD1 := hide (mdecode_any vs1 bs w1 is1 (by omega) m' g HD.out)
  clear C1 own1 is1 ht1
  go_wp2_with fail
  refine CD1.out.mono ?_
  rintro E w2 ⟨q1, rfl, Hq1⟩
  have szw2 := Hq1.out.2.2.2.size
  have O1 := hide Hq1.out.2.1
  have F1 := hide Hq1.out.2.2.1
  have N1 := hide Hq1.out.1
  have bel0w2 := bel0w1.trans (Hq1.out.2.2.2.mono (by omega))
  have belq1 := hide Hq1.out.2.2.2
  clear Hq1 CD1
  obtain ⟨ao1, cap1, hvs1, _, _⟩ := O1.out.is.s.shape
  obtain ⟨aq1, caq1, hvc1, _, _⟩ := O1.out.is.c.1.shape
  have HMV1 : Hid (mv q1 = .agg #[.int .i64 q1.k, .int .i64 q1.e, .int .u8 q1.r, .int .i64 q1.n, .slice ao1 q1.ss.length cap1, .int .i64 q1.f, .int .i64 q1.p, .slice aq1 q1.cs.length caq1]) := hide (mv_eq hvs1 hvc1)
  have HVS1 := hide hvs1
  have HVC1 := hide hvc1
  rw [HMV1.out]
  obtain ⟨V1, hV1', hV1, szV1', belV1, hM1, _⟩ := new8 w2 30 (.int .i64 0) (.int .i64 0) (.int .u8 0) (.int .i64 0) (.slice none 0 0) (.int .i64 0) (.int .i64 0) (.slice none 0 0) (.int .i64 q1.k) (.int .i64 q1.e) (.int .u8 q1.r) (.int .i64 q1.n) (.slice ao1 q1.ss.length cap1) (.int .i64 q1.f) (.int .i64 q1.p) (.slice aq1 q1.cs.length caq1)
  have szV1 : w2.heap.size + 1 ≤ V1.heap.size := by omega
  have HM1 := hide hM1
  have bel0V1 := bel0w2.trans (belV1.mono (by omega))
  clear hM1 hvs1 hvc1 szV1'
  have belw1V1 : Below w1.heap.size w1 V1 := belq1.out.trans (belV1.mono (by omega))
  have CD2 := hide (mdecode_any vs1 bs V1 (I1.out.below belw1V1) (by omega) m' g HD.out)
  go_wp2_with fail
  refine CD2.out.mono ?_
  rintro E w3 ⟨q2, rfl, Hq2⟩
  have szw3 := Hq2.out.2.2.2.size
  have O2 := hide Hq2.out.2.1
  have F2 := hide Hq2.out.2.2.1
  have N2 := hide Hq2.out.1
  have bel0w3 := bel0V1.trans (Hq2.out.2.2.2.mono (by omega))
  have belq2 := hide Hq2.out.2.2.2
  clear Hq2 CD2
  obtain ⟨ao2, cap2, hvs2, _, _⟩ := O2.out.is.s.shape
  obtain ⟨aq2, caq2, hvc2, _, _⟩ := O2.out.is.c.1.shape
  have HMV2 : Hid (mv q2 = .agg #[.int .i64 q2.k, .int .i64 q2.e, .int .u8 q2.r, .int .i64 q2.n, .slice ao2 q2.ss.length cap2, .int .i64 q2.f, .int .i64 q2.p, .slice aq2 q2.cs.length caq2]) := hide (mv_eq hvs2 hvc2)
  have HVS2 := hide hvs2
  have HVC2 := hide hvc2
  rw [HMV2.out]
  obtain ⟨V2, hV2', hV2, szV2', belV2, hM2, _⟩ := new8 w3 30 (.int .i64 0) (.int .i64 0) (.int .u8 0) (.int .i64 0) (.slice none 0 0) (.int .i64 0) (.int .i64 0) (.slice none 0 0) (.int .i64 q2.k) (.int .i64 q2.e) (.int .u8 q2.r) (.int .i64 q2.n) (.slice ao2 q2.ss.length cap2) (.int .i64 q2.f) (.int .i64 q2.p) (.slice aq2 q2.cs.length caq2)
  have szV2 : w3.heap.size + 1 ≤ V2.heap.size := by omega
  have HM2 := hide hM2
  have bel0V2 := bel0w3.trans (belV2.mono (by omega))
  clear hM2 hvs2 hvc2 szV2'
  have CD3 := hide (mdecodeR_any _ bs V2 (HB.out.below bel0V2) (by omega) m' g HD.out)
  go_wp2_with fail
  refine CD3.out.mono ?_
  rintro E w4 ⟨q3, rfl, Hq3⟩
  have szw4 := Hq3.out.2.2.2.size
  have O3 := hide Hq3.out.2.1
  have F3 := hide Hq3.out.2.2.1
  have N3 := hide Hq3.out.1
  have bel0w4 := bel0V2.trans (Hq3.out.2.2.2.mono (by omega))
  have belq3 := hide Hq3.out.2.2.2
  clear Hq3 CD3
  obtain ⟨ao3, cap3, hvs3, _, _⟩ := O3.out.is.s.shape
  obtain ⟨aq3, caq3, hvc3, _, _⟩ := O3.out.is.c.1.shape
  have HMV3 : Hid (mv q3 = .agg #[.int .i64 q3.k, .int .i64 q3.e, .int .u8 q3.r, .int .i64 q3.n, .slice ao3 q3.ss.length cap3, .int .i64 q3.f, .int .i64 q3.p, .slice aq3 q3.cs.length caq3]) := hide (mv_eq hvs3 hvc3)
  have HVS3 := hide hvs3
  have HVC3 := hide hvc3
  rw [HMV3.out]
  obtain ⟨V3, hV3', hV3, szV3', belV3, hM3, _⟩ := new8 w4 30 (.int .i64 0) (.int .i64 0) (.int .u8 0) (.int .i64 0) (.slice none 0 0) (.int .i64 0) (.int .i64 0) (.slice none 0 0) (.int .i64 q3.k) (.int .i64 q3.e) (.int .u8 q3.r) (.int .i64 q3.n) (.slice ao3 q3.ss.length cap3) (.int .i64 q3.f) (.int .i64 q3.p) (.slice aq3 q3.cs.length caq3)
  have szV3 : w4.heap.size + 1 ≤ V3.heap.size := by omega
  have HM3 := hide hM3
  have bel0V3 := bel0w4.trans (belV3.mono (by omega))
  clear hM3 hvs3 hvc3 szV3'
  have belV1V2 : Hid (Below V1.heap.size V1 V2) := hide (belq2.out.trans (belV2.mono (by omega)))
  have belV2V3 : Hid (Below V2.heap.size V2 V3) := hide (belq3.out.trans (belV3.mono (by omega)))
  have belV1V3 : Hid (Below V1.heap.size V1 V3) := hide (belV1V2.out.trans (belV2V3.out.mono (by omega)))
  have P1 : Hid (OwnM w1.heap.size V3 q1) := hide ((O1.out.below belV1).below belV1V3.out)
  have P2 : Hid (OwnM V1.heap.size V3 q2) := hide ((O2.out.below belV2).below belV2V3.out)
  have P3 : Hid (OwnM V2.heap.size V3 q3) := hide (O3.out.below belV3)
  have OFV := hide (OF.out.below (belw1V1.trans (belV1V3.out.mono (by omega))))
  have LT1 := hide (lit_of HD.out N1.out)
  have LT2 := hide (lit_of HD.out N2.out)
  have R1 : Hid (∀ b, q1.vc.ownBlock = some b → w1.heap.size ≤ b ∧ b < w2.heap.size) := hide (World.ownsRow.lt O1.out.c)
  have R2 : Hid (∀ c ∈ q1.cs, ∀ b, c.v.ownBlock = some b → w1.heap.size ≤ b ∧ b < w2.heap.size) := hide fun c hc => World.ownsRow.lt (O1.out.o c hc)
  have R3 : Hid (∀ b, q2.vc.ownBlock = some b → V1.heap.size ≤ b ∧ b < w3.heap.size) := hide (World.ownsRow.lt O2.out.c)
  have R4 : Hid (∀ c ∈ q2.cs, ∀ b, c.v.ownBlock = some b → V1.heap.size ≤ b ∧ b < w3.heap.size) := hide fun c hc => World.ownsRow.lt (O2.out.o c hc)
  have R5 : Hid (∀ b, q1.vs.ownBlock = some b → w1.heap.size ≤ b ∧ b < w2.heap.size) := hide (World.ownsRow.lt O1.out.s)
  have HGG : Hid (∀ g, OwnsC 2 (duo q1.vc q2.vc) (duo q1.cs q2.cs) g → (w1.heap.size ≤ g ∧ g < w2.heap.size) ∨ (V1.heap.size ≤ g ∧ g < w3.heap.size)) := hide fun g h => by
    have two : ∀ i, i < 2 → i = 0 ∨ i = 1 := by omega
    rcases h with ⟨i, hi, e⟩ | ⟨i, hi, c, hc, e⟩
    · rcases two i hi with rfl | rfl
      · exact .inl (R1.out g e)
      · exact .inr (R3.out g e)
    · rcases two i hi with rfl | rfl
      · exact .inl (R2.out c hc g e)
      · exact .inr (R4.out c hc g e)
  have KS : Hid (∀ W, Out (fun g => (w1.heap.size ≤ g ∧ g < w2.heap.size) ∨ (V1.heap.size ≤ g ∧ g < w3.heap.size)) V3 W → (W.cell? ⟨w2.heap.size, 0, none⟩ = some (.int .i64 q1.k) ∧ W.cell? ⟨w2.heap.size, 1, none⟩ = some (.int .i64 q1.e) ∧ W.cell? ⟨w2.heap.size, 2, none⟩ = some (.int .u8 q1.r) ∧ W.cell? ⟨w2.heap.size, 3, none⟩ = some (.int .i64 q1.n) ∧ W.cell? ⟨w2.heap.size, 4, none⟩ = some (.slice ao1 q1.ss.length cap1) ∧ W.cell? ⟨w2.heap.size, 5, none⟩ = some (.int .i64 q1.f) ∧ W.cell? ⟨w2.heap.size, 6, none⟩ = some (.int .i64 q1.p) ∧ W.cell? ⟨w2.heap.size, 7, none⟩ = some (.slice aq1 q1.cs.length caq1)) ∧ (W.cell? ⟨w3.heap.size, 0, none⟩ = some (.int .i64 q2.k) ∧ W.cell? ⟨w3.heap.size, 1, none⟩ = some (.int .i64 q2.e) ∧ W.cell? ⟨w3.heap.size, 2, none⟩ = some (.int .u8 q2.r) ∧ W.cell? ⟨w3.heap.size, 3, none⟩ = some (.int .i64 q2.n) ∧ W.cell? ⟨w3.heap.size, 4, none⟩ = some (.slice ao2 q2.ss.length cap2) ∧ W.cell? ⟨w3.heap.size, 5, none⟩ = some (.int .i64 q2.f) ∧ W.cell? ⟨w3.heap.size, 6, none⟩ = some (.int .i64 q2.p) ∧ W.cell? ⟨w3.heap.size, 7, none⟩ = some (.slice aq2 q2.cs.length caq2)) ∧ (W.cell? ⟨w4.heap.size, 0, none⟩ = some (.int .i64 q3.k) ∧ W.cell? ⟨w4.heap.size, 1, none⟩ = some (.int .i64 q3.e) ∧ W.cell? ⟨w4.heap.size, 2, none⟩ = some (.int .u8 q3.r) ∧ W.cell? ⟨w4.heap.size, 3, none⟩ = some (.int .i64 q3.n) ∧ W.cell? ⟨w4.heap.size, 4, none⟩ = some (.slice ao3 q3.ss.length cap3) ∧ W.cell? ⟨w4.heap.size, 5, none⟩ = some (.int .i64 q3.f) ∧ W.cell? ⟨w4.heap.size, 6, none⟩ = some (.int .i64 q3.p) ∧ W.cell? ⟨w4.heap.size, 7, none⟩ = some (.slice aq3 q3.cs.length caq3))) := hide fun W ho => by
    have e1 := (ho.block w2.heap.size (by omega) (by omega)).trans ((belV1V3.out.block _ (by omega)).trans HM1.out)
    have e2 := (ho.block w3.heap.size (by omega) (by omega)).trans ((belV2V3.out.block _ (by omega)).trans HM2.out)
    have e3 := (ho.block w4.heap.size (by omega) (by omega)).trans HM3.out
    exact ⟨ei_and (ei_of e1), ei_and (ei_of e2), ei_and (ei_of e3)⟩
  have LL : Hid (∀ W, Below V3.heap.size V3 W → ListsC 2 W.heap.size w1.heap.size (W.alloc (.cells #[q1.vc, q2.vc] 28)) (duo q1.vc q2.vc) (duo q1.cs q2.cs)) := hide fun W hb => listsC_two (P1.out.below hb) (P2.out.below hb) (by omega) (fun b e => by have := R1.out b e; omega) (fun c hc b e => by have := R2.out c hc b e; omega) LT1.out LT2.out F1.out.fc F2.out.fc
  have X3 := hide (fun W (hb : Below V3.heap.size V3 W) => msameK_any q1 q3 W (P1.out.is.below hb) (P3.out.is.below hb) F1.out F3.out)
  rw [HMV1.out, HMV3.out, show smM q1.m q3.m = true by rw [N1.out, N3.out]; exact smM_self _] at X3
  have XC : Hid (∀ W, Below V3.heap.size V3 W → Calls Try.prog 25 #[.slice (some ⟨W.heap.size, 0, none⟩) 2 2] (W.alloc (.cells #[q1.vc, q2.vc] 28)) fun E A => E = .returned (.bool true) ∧ Hid (Out (fun g => (w1.heap.size ≤ g ∧ g < w2.heap.size) ∨ (V1.heap.size ≤ g ∧ g < w3.heap.size)) V3 A ∧ OwnS w1.heap.size A q1.vs q1.ss ∧ OwnS V1.heap.size A q2.vs q2.ss)) := hide fun W hb => by
    have hs := hb.size
    refine (apartC_keeps 2 W.heap.size 2 w1.heap.size _ _ _ (by omega) (by omega) (by simp; omega) (LL.out W hb) (by omega)).mono ?_
    rintro E A ⟨rfl, out5⟩
    have belW : Below V3.heap.size V3 (W.alloc (.cells #[q1.vc, q2.vc] 28)) := hb.alloc (by omega) _
    exact ⟨rfl, hide ⟨(Out.of_below belW).trans (out5.mono (G := fun g => (w1.heap.size ≤ g ∧ g < w2.heap.size) ∨ (V1.heap.size ≤ g ∧ g < w3.heap.size)) (fun g h => .inl (HGG.out g h))) (fun g h => .inl h), starts_keep (LL.out W hb) (ownS_below P1.out.s belW) out5, starts_keep (LL.out W hb) (ownS_below P2.out.s belW) out5⟩⟩
  have XS : Hid (∀ A, Out (fun g => (w1.heap.size ≤ g ∧ g < w2.heap.size) ∨ (V1.heap.size ≤ g ∧ g < w3.heap.size)) V3 A ∧ OwnS w1.heap.size A q1.vs q1.ss ∧ OwnS V1.heap.size A q2.vs q2.ss → Calls Try.prog 26 #[q1.vs, .slice (some ⟨A.heap.size, 0, none⟩) 1 1] (A.alloc (.cells #[q2.vs] 27)) fun E Z => E = .returned (.bool true) ∧ Hid (Out (fun g => (w1.heap.size ≤ g ∧ g < w2.heap.size) ∨ (V1.heap.size ≤ g ∧ g < w3.heap.size)) V3 Z)) := hide fun A hA => by
    obtain ⟨oA, s1, s2⟩ := hA
    have hs := oA.size
    have belA : Below A.heap.size A (A.alloc (.cells #[q2.vs] 27)) := (Below.refl _ _).alloc (Nat.le_refl _) _
    refine (apartS_keeps 1 A.heap.size 1 w1.heap.size q1.vs q1.ss _ _ _ (by omega) (by omega) (by simp; omega) (ownS_below s1 belA) (by have := LT1.out.s; omega) (listsS_one s1 s2 (fun g e => by have := R5.out g e; omega) LT2.out.s) (by omega)).mono ?_
    rintro E Z ⟨rfl, out6⟩
    exact ⟨rfl, hide ((oA.trans (Out.of_below (F := fun _ => False) belA) (fun g h => h.elim)).trans (out6.mono (G := fun g => (w1.heap.size ≤ g ∧ g < w2.heap.size) ∨ (V1.heap.size ≤ g ∧ g < w3.heap.size)) (fun g e => .inl (.inl (R5.out g e)))) (fun g h => .inl h))⟩
  rw [HVC1.out, HVC2.out, HVS1.out, HVS2.out] at XC
  rw [HVS1.out, HVS2.out] at XS
  have S0 := hide (KS.out _ (Out.refl _ _))
  have hV3s : V3.heap.size ≥ w.heap.size := by omega
  clear hsl1 hV1 hV1' hV2 hV2' HM1 HM2 HM3 LL HGG R1 R2 R3 R4 R5 P1 P2 P3 O1 O2 O3 belq1 belq2 belq3 belV1 belV2 belV3 belw1V1 I1 OF
  obtain ⟨⟨sa0, sa1, sa2, sa3, sa4, sa5, sa6, sa7⟩, ⟨sb0, sb1, sb2, sb3, sb4, sb5, sb6, sb7⟩, ⟨sc0, sc1, sc2, sc3, sc4, sc5, sc6, sc7⟩⟩ := S0.out
  go_wp2_with fail
  refine (lives_any _).mono ?_
  rintro E xa ⟨rfl, belxa⟩
  clear sa0 sa1 sa2 sa3 sa4 sa5 sa6 sa7 sb0 sb1 sb2 sb3 sb4 sb5 sb6 sb7 sc0 sc1 sc2 sc3 sc4 sc5 sc6 sc7
  obtain ⟨⟨ta0, ta1, ta2, ta3, ta4, ta5, ta6, ta7⟩, ⟨tb0, tb1, tb2, tb3, tb4, tb5, tb6, tb7⟩, ⟨tc0, tc1, tc2, tc3, tc4, tc5, tc6, tc7⟩⟩ := KS.out _ (Out.of_below belxa)
  go_wp2_with fail
  refine (X3.out _ belxa).mono ?_
  rintro E xb ⟨rfl, belxb'⟩
  have belxb := belxa.trans (belxb'.mono belxa.size)
  clear ta0 ta1 ta2 ta3 ta4 ta5 ta6 ta7 tb0 tb1 tb2 tb3 tb4 tb5 tb6 tb7 tc0 tc1 tc2 tc3 tc4 tc5 tc6 tc7 belxb'
  obtain ⟨⟨sa0, sa1, sa2, sa3, sa4, sa5, sa6, sa7⟩, ⟨sb0, sb1, sb2, sb3, sb4, sb5, sb6, sb7⟩, ⟨sc0, sc1, sc2, sc3, sc4, sc5, sc6, sc7⟩⟩ := KS.out _ (Out.of_below belxb)
  go_wp2_with fail
  refine (kept_yes _ _ bs _ _ (OFV.out.below belxb).is (HB.out.below (bel0V3.trans (belxb.mono (by omega)))) (by omega) rfl).mono ?_
  rintro E xc ⟨rfl, belxc'⟩
  have belxc := belxb.trans (belxc'.mono belxb.size)
  clear sa0 sa1 sa2 sa3 sa4 sa5 sa6 sa7 sb0 sb1 sb2 sb3 sb4 sb5 sb6 sb7 sc0 sc1 sc2 sc3 sc4 sc5 sc6 sc7 belxc'
  obtain ⟨⟨ta0, ta1, ta2, ta3, ta4, ta5, ta6, ta7⟩, ⟨tb0, tb1, tb2, tb3, tb4, tb5, tb6, tb7⟩, ⟨tc0, tc1, tc2, tc3, tc4, tc5, tc6, tc7⟩⟩ := KS.out _ (Out.of_below belxc)
  go_wp2_with fail
  refine (XC.out _ belxc).mono ?_
  rintro E xd ⟨rfl, HXD⟩
  clear ta0 ta1 ta2 ta3 ta4 ta5 ta6 ta7 tb0 tb1 tb2 tb3 tb4 tb5 tb6 tb7 tc0 tc1 tc2 tc3 tc4 tc5 tc6 tc7
  obtain ⟨⟨sa0, sa1, sa2, sa3, sa4, sa5, sa6, sa7⟩, ⟨sb0, sb1, sb2, sb3, sb4, sb5, sb6, sb7⟩, ⟨sc0, sc1, sc2, sc3, sc4, sc5, sc6, sc7⟩⟩ := KS.out _ HXD.out.1
  go_wp2_with fail
  refine (XS.out _ HXD.out).mono ?_
  rintro E xe ⟨rfl, HXE⟩
  clear sa0 sa1 sa2 sa3 sa4 sa5 sa6 sa7 sb0 sb1 sb2 sb3 sb4 sb5 sb6 sb7 sc0 sc1 sc2 sc3 sc4 sc5 sc6 sc7
  go_wp2
  go_ret
  exact ⟨rfl, bel0V3.trans ((HXE.out.below (base := w1.heap.size) (fun g h => by omega) (by omega)).mono (by omega))⟩

end Go.Proofs.Ytjaiemdefngbbaa
