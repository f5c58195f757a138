/- Texts of one layer, one behind the other. -/
import Derived.Test.YtajlhdmnincehaaGreatDoorH3
import Derived.SizedLaws
import Derived.Lib.SmallJoins
import Derived.Deep.Slices
/- The contracts of Encode: the program's, the document's; of the copy that slices.Clone makes of ops, and of Copy. -/
namespace Go.Proofs.YtajlhdmnincehaaGreatDoor
open Go.RowKit
set_option linter.unusedVariables false

set_option maxHeartbeats 400000 in
theorem cenc_any (e n : Int) (v : Value) (l : List Bm.Ov) (w : World) (h : IsO w v l) (hf : FitO l) (hl : l.length ≤ 140737488355328) :
    Calls Tryz.prog 243 #[cmv e n v] w fun E w' => ∃ vb, E = .returned (.tuple #[vb, .int .i64 (Cm.chk e n l)]) ∧ Own .u8 5 w.heap.size w' vb (Cm.out e n l) ∧ Below w.heap.size w w' := by
  unfold cmv
  obtain ⟨ch, hch⟩ : ∃ c, Cm.chk e n l = c := ⟨_, rfl⟩
  obtain ⟨ou, hou⟩ : ∃ c, Cm.out e n l = c := ⟨_, rfl⟩
  rw [hch, hou]
  have HC := hide hch
  have HO := hide hou
  clear hch hou
  obtain ⟨w1, hw1, sz1, bel1, hB⟩ := blk_step w #[.int .i64 e, .int .i64 n, v] 93
  have c0 := blk_cell hB 0 rfl
  have c1 := blk_cell hB 1 rfl
  have c2 := blk_cell hB 2 rfl
  have h1 := h.below bel1
  obtain ⟨ao, cap, rfl, _, _⟩ := h.shape
  have BB := hide hB
  clear hB
  go_enter Tryz.func243, Tryz.ntmps243
  go_wp2_with fail
  refine (ccheck_any e n _ l _ h1 hf hl).mono ?_
  rintro E w2 ⟨rfl, bel2⟩
  rw [HC.out]
  have sz2 := bel2.size
  have hB2 := (bel2.block _ (by omega)).trans BB.out
  have d0 := blk_cell hB2 0 rfl
  have d1 := blk_cell hB2 1 rfl
  have d2 := blk_cell hB2 2 rfl
  have h2 := h1.below bel2
  have bel02 := bel1.trans (bel2.mono (by omega))
  have B2 := hide hB2
  clear BB c0 c1 c2 hB2 bel1 bel2 h1
  by_cases hc : ch = 0
  · subst hc
    have hc := HC.out
    obtain ⟨g1, g2, g3, g4, g5⟩ := Cm.chk_zero hc
    have hO := HO.out
    rw [Cm.out_ok hc, Cm.encC] at hO
    replace HO := hide hO
    clear hO
    have hs1 := Cm.enc_small g2
    have hs2 := Cm.enc_small g4
    clear hc
    go_wp2_with fail
    refine (app_any _ [] e _ (Is.nil _ _) (by simp) (by omega) (by omega)).mono ?_
    rintro E w3 ⟨vb, rfl, own3, bel3⟩
    have sz3 := bel3.size
    have hB3 := (bel3.block _ (by omega)).trans B2.out
    have f1 := blk_cell hB3 1 rfl
    have h3 := h2.below bel3
    have bel03 := bel02.trans (bel3.mono (by omega))
    have B3 := hide hB3
    rw [List.nil_append] at own3
    clear B2 d0 d1 d2 hB3 bel3 h2 bel02
    go_wp2_with fail
    refine (app_any _ _ n _ own3.is (by omega) (by omega) (by omega)).mono ?_
    rintro E w4 ⟨vc, rfl, own4, bel4⟩
    have sz4 := bel4.size
    have hB4 := (bel4.block _ (by omega)).trans B3.out
    have q2 := blk_cell hB4 2 rfl
    have h4 := h3.below bel4
    have bel04 := bel03.trans (bel4.mono (by omega))
    clear B3 f1 hB4 bel4 h3 bel03 own3
    go_wp2_with fail
    refine (bapp_any _ _ _ l _ own4.is (by rw [List.length_append]; omega) h4 hf hl).mono ?_
    rintro E w5 ⟨vd, rfl, own5, bel5⟩
    rw [g5]
    rw [Bm.appB_ok g5, List.append_assoc, HO.out] at own5
    have own5' := own5.rebase (base' := w.heap.size) (by omega)
    have bel05 := bel04.trans (bel5.mono (by omega))
    clear own5 own4 h4 bel04 bel5
    go_wp2
    refine bodyPost_ret (v := .tuple #[vd, .int .i64 0]) (by simp [results, Tryz.results243, go_sem]) rfl ?_
    exact ⟨_, rfl, own5', bel05⟩
  · have hne : (ch == 0) = false := by simpa using hc
    have hO := HO.out
    rw [Cm.out_no (by rw [HC.out]; exact hc)] at hO
    subst hO
    clear hc
    go_wp2
    refine bodyPost_ret (v := .tuple #[.slice none 0 0, .int .i64 ch]) (by simp [results, Tryz.results243, go_sem]) rfl ?_
    exact ⟨_, rfl, Own.nil _ _ _ _, bel02⟩

end Go.Proofs.YtajlhdmnincehaaGreatDoor

/- slices.Clone of commits. -/
namespace Go.Proofs.YtajlhdmnincehaaGreatDoor
open Go.RowKit
set_option linter.unusedVariables false

theorem cloneC_any (vl : Value) (r : List Cw) (w : World) (h : RowC w vl r) (hone : ∀ c ∈ r, c.v.oneCell' = true) (hl : r.length ≤ 1048576) :
    Calls Tryz.prog 148 #[vl] w fun e w' => ∃ v, e = .returned v ∧ OwnR 93 w.heap.size w' v r ∧ Below w.heap.size w w' := by
  have q : ∀ (w : World) (a : Option Addr) (n c n' c' : Nat), (binOp .eql 25 (.slice a n c) (.slice none n' c')).run Tryz.prog w = .ok (.bool a.isNone) w := fun w a n c n' c' => Lib.run_eql_slice_nil w _ _ a n c n' c' Tryz.underlying25
  by_cases hn : vl = .slice none 0 0
  · subst hn
    have : r = [] := by
      rcases h with ⟨_, h⟩ | ⟨ad, cap, h, _⟩
      · exact h
      · simp at h
    subst this
    clear h hl
    go_enter Tryz.func148, Tryz.ntmps148
    go_wp2
    go_ret
    exact ⟨_, rfl, OwnR.nil _ _ _, Below.refl _ _⟩
  · obtain ⟨ad, cap, rfl⟩ : ∃ ad cap, vl = .slice (some ad) r.length cap := by
      rcases h with ⟨h, _⟩ | ⟨ad, cap, h, _⟩
      · exact absurd h hn
      · exact ⟨ad, cap, h⟩
    clear hn
    obtain ⟨w1, hw1, sz1, bel1, own1⟩ := coms_step 93 w #[] 0 [] rfl rfl (by simp [maxLen])
    have h1 := h.below bel1
    go_enter Tryz.func148, Tryz.ntmps148
    go_wp2_with (at_builtin; refine wpList_append_coms rfl (.tmp 5) (.tmp 6) 25 rfl 93 w.heap.size Tryz.underlying25 Tryz.info93 _ [] rfl own1 _ r rfl h1 hone (by simp; omega) (by omega) ?_)
    intro v2 w2 own2 bel2 _
    go_wp2
    go_ret
    exact ⟨_, rfl, by simpa using own2, bel1.trans bel2⟩

end Go.Proofs.YtajlhdmnincehaaGreatDoor

/- What an argument that is a slice of ops comes in as. No program. -/
namespace Go.Proofs.YtajlhdmnincehaaGreatDoor
open Go.RowKit Go.ChangeShapes Go.WideShapes Go.Deep
set_option linter.unusedVariables false

/-- An op as a datum. -/
def opd {H : Type} (o : Bm.Ov) : DataW H := .agg [.lit (.bool o.p), .lit (.string o.k.data.toList), .lit (.string o.v.data.toList)]

theorem ocells_inv : ∀ (l : List Bm.Ov) (j : Nat) (u : Value), (ocells l)[j]? = some u → ∃ i o, l[i]? = some o ∧ ((j = i * 3 ∧ u = .bool o.p) ∨ (j = i * 3 + 1 ∧ u = .string o.k) ∨ (j = i * 3 + 2 ∧ u = .string o.v))
  | [], j, u, h => by simp [ocells] at h
  | o :: r, 0, u, h => ⟨0, o, rfl, .inl ⟨rfl, by simpa [ocells, ocell] using h.symm⟩⟩
  | o :: r, 1, u, h => ⟨0, o, rfl, .inr (.inl ⟨rfl, by simpa [ocells, ocell] using h.symm⟩)⟩
  | o :: r, 2, u, h => ⟨0, o, rfl, .inr (.inr ⟨rfl, by simpa [ocells, ocell] using h.symm⟩)⟩
  | o :: r, j + 3, u, h => by
    have h' : (ocells r)[j]? = some u := by simpa [ocells, ocell] using h
    obtain ⟨i, q, hq, hc⟩ := ocells_inv r j u h'
    refine ⟨i + 1, q, by simpa using hq, ?_⟩
    rcases hc with ⟨rfl, hu⟩ | ⟨rfl, hu⟩ | ⟨rfl, hu⟩
    · exact .inl ⟨by omega, hu⟩
    · exact .inr (.inl ⟨by omega, hu⟩)
    · exact .inr (.inr ⟨by omega, hu⟩)

section
variable {H : Type} {enc : TypeId × Value → H} {P : Program} {w : World} {base : Nat} {spare : Nat → Bool} {held : Bool}

theorem open_ops {t e : TypeId} {f0 f1 f2 : Field} {fuel : Nat} {v : Value} {x : DataW H × List MemPlace} (ht : P.underlying t = some (.slice e)) (he : P.underlying e = some (.struct #[f0, f1, f2]))
    (hone : oneCellFields P #[f0, f1, f2] = true) (ce : P.cellsOf e = 3) (u0 : P.underlying f0.type = some .bool) (u1 : P.underlying f1.type = some .string) (u2 : P.underlying f2.type = some .string)
    (h : DataW.trod enc P w base spare held fuel t [v] = some x) : ∃ l : List Bm.Ov, IsO w v l ∧ ((x.1 = .nil ∧ l = []) ∨ ∃ sp, x.1 = .slice (l.map opd) sp) := by
  rcases open_slice ht h with ⟨hv, hx⟩ | ⟨a, len, cap, m, n, D, Pl, hv, hb, hl, hm, hmm, rfl, hx⟩
  · simp at hv
    subst hv hx
    exact ⟨[], IsO.nil _, .inl ⟨rfl, rfl⟩⟩
  · simp at hv
    subst hv
    have hlm : len ≤ m := by rw [hmm]; split <;> omega
    obtain ⟨o0, c0⟩ := hone_of hone 0 f0 rfl
    obtain ⟨o1, c1⟩ := hone_of hone 1 f1 rfl
    obtain ⟨o2, c2⟩ := hone_of hone 2 f2 rfl
    have each : ∀ i, i < len → ∃ o : Bm.Ov, w.cell? (a.add (i * 3)) = some (.bool o.p) ∧ w.cell? (a.add (i * 3 + 1)) = some (.string o.k) ∧ w.cell? (a.add (i * 3 + 2)) = some (.string o.v) ∧ D i = opd o := by
      intro i hi
      obtain ⟨cs', h1, h2⟩ := hx i (by omega)
      rw [ce] at h1
      obtain ⟨_, hlen, hcell⟩ := World.cells?_some h1
      obtain ⟨y0, y1, y2, k, hxy, _, g0, g1, g2⟩ := trod_struct3 he h2
      match cs', hlen with
      | [v0, v1, v2], _ =>
        simp [o0, o1, o2, c0, c1, c2] at g0 g1 g2
        obtain ⟨p, hp, rfl⟩ := DataW.trod_bool u0 g0
        obtain ⟨s, hs, rfl, _⟩ := DataW.trod_string u1 g1
        obtain ⟨r, hr, rfl, _⟩ := DataW.trod_string u2 g2
        simp at hp hs hr
        subst hp hs hr
        have e0 := hcell 0 (by omega)
        have e1 := hcell 1 (by omega)
        have e2 := hcell 2 (by omega)
        rw [Go.Deep.add_add] at e0 e1 e2
        simp only [Prod.mk.injEq] at hxy
        exact ⟨⟨p, s, r⟩, by simpa using e0, by simpa using e1, by simpa using e2, hxy.1⟩
    have : Inhabited Bm.Ov := ⟨⟨false, ⟨#[]⟩, ⟨#[]⟩⟩⟩
    obtain ⟨f, hf⟩ := choose_lt each
    refine ⟨(List.range len).map f, .inr ⟨a, cap, by simp, by simpa using hl, hm, fun j u hj => ?_⟩, .inr ⟨(List.range (m - len)).map fun j => D (len + j), ?_⟩⟩
    · obtain ⟨i, o, ho, hc⟩ := ocells_inv _ j u hj
      obtain ⟨hi, e⟩ := List.getElem?_eq_some_iff.1 ho
      simp at hi e
      obtain ⟨k0, k1, k2, _⟩ := hf i hi
      subst e
      rcases hc with ⟨rfl, rfl⟩ | ⟨rfl, rfl⟩ | ⟨rfl, rfl⟩
      · exact k0
      · exact k1
      · exact k2
    · show DataW.slice _ _ = DataW.slice _ _
      congr 1
      rw [List.map_map]
      exact List.map_congr_left fun i hi => (hf i (by simpa using hi)).2.2.2


/-- A list of ops as a datum. -/
def OpsD (d : DataW H) (l : List Bm.Ov) : Prop := (d = .nil ∧ l = []) ∨ ∃ sp, d = .slice (l.map opd) sp



end

end Go.Proofs.YtajlhdmnincehaaGreatDoor

/- What an argument that is a commit, or a slice of commits, comes in as. No program. -/
namespace Go.Proofs.YtajlhdmnincehaaGreatDoor
open Go.RowKit Go.ChangeShapes Go.WideShapes Go.Deep
set_option linter.unusedVariables false

theorem in64 {z : Int} (h : (Lit.int .i64 z).wf = true) : In64 z := by
  have := range_i64 (zs := [z]) (by simpa using h) 0
  simp at this
  exact ⟨by omega, by omega⟩

theorem ccells_inv : ∀ (l : List Cw) (j : Nat) (u : Value), (ccells l)[j]? = some u → ∃ i c, l[i]? = some c ∧ ((j = i * 3 ∧ u = .int .i64 c.e) ∨ (j = i * 3 + 1 ∧ u = .int .i64 c.n) ∨ (j = i * 3 + 2 ∧ u = c.v))
  | [], j, u, h => by simp [ccells] at h
  | o :: r, 0, u, h => ⟨0, o, rfl, .inl ⟨rfl, by simpa [ccells, ccell] using h.symm⟩⟩
  | o :: r, 1, u, h => ⟨0, o, rfl, .inr (.inl ⟨rfl, by simpa [ccells, ccell] using h.symm⟩)⟩
  | o :: r, 2, u, h => ⟨0, o, rfl, .inr (.inr ⟨rfl, by simpa [ccells, ccell] using h.symm⟩)⟩
  | o :: r, j + 3, u, h => by
    have h' : (ccells r)[j]? = some u := by simpa [ccells, ccell] using h
    obtain ⟨i, q, hq, hc⟩ := ccells_inv r j u h'
    refine ⟨i + 1, q, by simpa using hq, ?_⟩
    rcases hc with ⟨rfl, hu⟩ | ⟨rfl, hu⟩ | ⟨rfl, hu⟩
    · exact .inl ⟨by omega, hu⟩
    · exact .inr (.inl ⟨by omega, hu⟩)
    · exact .inr (.inr ⟨by omega, hu⟩)

section
variable {H : Type} {enc : TypeId × Value → H} {P : Program} {w : World} {base : Nat} {spare : Nat → Bool} {held : Bool}



/-- A commit of a list as a datum. -/
def ComD (d : DataW H) (c : Cw) : Prop := ∃ x0 x1 d2, d = .agg [x0, x1, d2] ∧ OpsD d2 c.l

theorem open_coms {t e o : TypeId} {f0 f1 f2 g0 g1 g2 : Field} {fuel : Nat} {v : Value} {x : DataW H × List MemPlace} (ht : P.underlying t = some (.slice e)) (he : P.underlying e = some (.struct #[f0, f1, f2]))
    (hone : oneCellFields P #[f0, f1, f2] = true) (ce : P.cellsOf e = 3) (u0 : P.underlying f0.type = some (.int .i64)) (u1 : P.underlying f1.type = some (.int .i64)) (u2 : P.underlying f2.type = some (.slice o))
    (ho : P.underlying o = some (.struct #[g0, g1, g2])) (hone' : oneCellFields P #[g0, g1, g2] = true) (co : P.cellsOf o = 3) (k0 : P.underlying g0.type = some .bool) (k1 : P.underlying g1.type = some .string) (k2 : P.underlying g2.type = some .string)
    (h : DataW.trod enc P w base spare held fuel t [v] = some x) : ∃ r : List Cw, IsC w v r ∧ ((x.1 = .nil ∧ r = []) ∨ ∃ ds sp, x.1 = .slice ds sp ∧ ds.length = r.length ∧ ∀ (i : Nat) (c : Cw), r[i]? = some c → ∃ d, ds[i]? = some d ∧ ComD d c) := by
  rcases open_slice ht h with ⟨hv, hx⟩ | ⟨a, len, cap, m, n, D, Pl, hv, hb, hl, hm, hmm, rfl, hx⟩
  · simp at hv
    subst hv hx
    exact ⟨[], IsC.nil _, .inl ⟨rfl, rfl⟩⟩
  · simp at hv
    subst hv
    have hlm : len ≤ m := by rw [hmm]; split <;> omega
    obtain ⟨o0, c0⟩ := hone_of hone 0 f0 rfl
    obtain ⟨o1, c1⟩ := hone_of hone 1 f1 rfl
    obtain ⟨o2, c2⟩ := hone_of hone 2 f2 rfl
    have each : ∀ i, i < len → ∃ c : Cw, (w.cell? (a.add (i * 3)) = some (.int .i64 c.e) ∧ w.cell? (a.add (i * 3 + 1)) = some (.int .i64 c.n) ∧ w.cell? (a.add (i * 3 + 2)) = some c.v) ∧ (IsO w c.v c.l ∧ In64 c.e ∧ In64 c.n) ∧ ComD (D i) c := by
      intro i hi
      obtain ⟨cs', h1, h2⟩ := hx i (by omega)
      rw [ce] at h1
      obtain ⟨_, hlen, hcell⟩ := World.cells?_some h1
      obtain ⟨y0, y1, y2, k, hxy, _, q0, q1, q2⟩ := trod_struct3 he h2
      match cs', hlen with
      | [v0, v1, v2], _ =>
        simp [o0, o1, o2, c0, c1, c2] at q0 q1 q2
        obtain ⟨p, hp, rfl, wp⟩ := DataW.trod_int u0 q0
        obtain ⟨s, hs, rfl, ws⟩ := DataW.trod_int u1 q1
        obtain ⟨l, hl2, hd2⟩ := open_ops u2 ho hone' co k0 k1 k2 q2
        simp at hp hs
        subst hp hs
        have e0 := hcell 0 (by omega)
        have e1 := hcell 1 (by omega)
        have e2 := hcell 2 (by omega)
        rw [Go.Deep.add_add] at e0 e1 e2
        simp only [Prod.mk.injEq] at hxy
        exact ⟨⟨p, s, v2, l⟩, ⟨by simpa using e0, by simpa using e1, by simpa using e2⟩, ⟨hl2, in64 wp, in64 ws⟩, _, _, _, hxy.1, hd2⟩
    have : Inhabited Cw := ⟨⟨0, 0, .slice none 0 0, []⟩⟩
    obtain ⟨f, hf⟩ := choose_lt each
    refine ⟨(List.range len).map f, ⟨.inr ⟨a, cap, by simp, by simpa using hl, hm, fun j u hj => ?_⟩, fun c hc => ?_⟩, .inr ⟨(List.range len).map D, (List.range (m - len)).map fun j => D (len + j), ?_, by simp, fun i c hic => ?_⟩⟩
    · obtain ⟨i, o, ho, hc⟩ := ccells_inv _ j u hj
      obtain ⟨hi, e⟩ := List.getElem?_eq_some_iff.1 ho
      simp at hi e
      obtain ⟨⟨k0, k1, k2⟩, _⟩ := hf i hi
      subst e
      rcases hc with ⟨rfl, rfl⟩ | ⟨rfl, rfl⟩ | ⟨rfl, rfl⟩
      · exact k0
      · exact k1
      · exact k2
    · obtain ⟨i, hi, rfl⟩ := List.mem_map.1 hc
      exact (hf i (by simpa using hi)).2.1
    · rfl
    · obtain ⟨hi, e⟩ := List.getElem?_eq_some_iff.1 hic
      simp at hi e
      subst e
      exact ⟨D i, by simp [hi], (hf i hi).2.2⟩


end

end Go.Proofs.YtajlhdmnincehaaGreatDoor
