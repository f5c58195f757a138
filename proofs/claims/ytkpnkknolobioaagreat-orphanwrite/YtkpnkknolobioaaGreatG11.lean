/- Texts of one layer, one behind the other. -/
import Derived.Test.YtkpnkknolobioaaGreatG10
import Derived.Test.YtkpnkknolobioaaGreatG5
import Derived.Test.YtkpnkknolobioaaGreatG8
import Derived.Test.YtkpnkknolobioaaGreatG1
import Derived.Test.YtkpnkknolobioaaGreatG7
import Derived.Test.YtkpnkknolobioaaGreatG6
import Derived.Test.YtkpnkknolobioaaGreatG2
import Derived.Lib.SliceRun
import Derived.Test.YtkpnkknolobioaaGreatG4
import Derived.Test.YtkpnkknolobioaaGreatG3
import Derived.Lib.AppendZeros
/- 'append' of ops and of rows of runs or commits, as one step. No program. -/
namespace Go.Proofs.YtkpnkknolobioaaGreat
open Go.RowKit
set_option linter.unusedVariables false

section
variable {P : Program} {w : World}

theorem run_append_ops_at (t ty e : TypeId) (base : Nat) (ht : P.underlying t = some (.slice e)) (hinfo : (P.info? e).map (fun i => (i.zero, i.size, i.bytes)) = some (some (.agg #[.bool false, .string ⟨#[]⟩, .string ⟨#[]⟩]), 3, 40))
    (v : Value) (l : List Bm.Ov) (hown : OwnO e base w v l) (vx : Value) (m : List Bm.Ov) (his : IsO w vx m) (hlen : (l.length + m.length) * 40 ≤ 140737488355328) (hbase : base ≤ w.heap.size) :
    ∃ v' w', (Builtin.append_ #[t, t] ty #[v, vx]).run P w = .ok v' w' ∧ OwnO e base w' v' (l ++ m) ∧ w.grownBy w' v.ownBlock ∧ (v'.ownBlock = v.ownBlock ∨ v'.ownBlock = some w.heap.size) := by
  obtain ⟨i, hi, hz, hsize, hb⟩ := info_parts hinfo
  rcases his with ⟨hv, hy⟩ | ⟨ad, cap, hv, h1, h2, hc⟩
  · subst hy hv
    have hrun := run_append_owned_none (P := P) (w := w) base t ty e i 3 ht hi v l.length _ hown
    exact ⟨v, w, hrun, by simpa using hown, World.grownBy.refl _ _, .inl rfl⟩
  · subst hv
    obtain ⟨v', w', hr, h3, h4, _, h5⟩ := run_append_own_at (P := P) w base t ty e i _ 3 40 ht hi hz hsize hb rfl (by decide) v l.length _ hown ad m.length cap (ocells m) (ocells_len m) hc (ocells_cell m) (by unfold maxLen; omega) hlen hbase
    exact ⟨v', w', hr, by unfold OwnO; rw [ocells_app, List.length_append]; exact h3, h4, h5⟩

theorem run_append_coms_at (t ty e : TypeId) (base : Nat) (ht : P.underlying t = some (.slice e)) (hinfo : (P.info? e).map (fun i => (i.zero, i.size, i.bytes)) = some (some (.agg #[.int .i64 0, .int .i64 0, .slice none 0 0]), 3, 40))
    (v : Value) (l : List Cw) (hown : OwnR e base w v l) (vx : Value) (m : List Cw) (his : RowC w vx m) (hone : ∀ c ∈ m, c.v.oneCell' = true) (hlen : (l.length + m.length) * 40 ≤ 140737488355328) (hbase : base ≤ w.heap.size) :
    ∃ v' w', (Builtin.append_ #[t, t] ty #[v, vx]).run P w = .ok v' w' ∧ OwnR e base w' v' (l ++ m) ∧ w.grownBy w' v.ownBlock ∧ (v'.ownBlock = v.ownBlock ∨ v'.ownBlock = some w.heap.size) := by
  obtain ⟨i, hi, hz, hsize, hb⟩ := info_parts hinfo
  rcases his with ⟨hv, hy⟩ | ⟨ad, cap, hv, h1, h2, hc⟩
  · subst hy hv
    have hrun := run_append_owned_none (P := P) (w := w) base t ty e i 3 ht hi v l.length _ hown
    exact ⟨v, w, hrun, by simpa using hown, World.grownBy.refl _ _, .inl rfl⟩
  · subst hv
    obtain ⟨v', w', hr, h3, h4, _, h5⟩ := run_append_own_at (P := P) w base t ty e i _ 3 40 ht hi hz hsize hb rfl (by decide) v l.length _ hown ad m.length cap (ccells m) (ccells_len m) hc (ccells_cell m hone) (by unfold maxLen; omega) hlen hbase
    exact ⟨v', w', hr, by unfold OwnR; rw [ccells_app, List.length_append]; exact h3, h4, h5⟩

end

end Go.Proofs.YtkpnkknolobioaaGreat

/- Commits in memory of their own, put together one by one. -/
namespace Go.Proofs.YtkpnkknolobioaaGreat
open Go.RowKit
set_option linter.unusedVariables false

/-- What a commit that was read is. -/
def CFit (e n : Int) (l : List Bm.Ov) : Prop := In64 e ∧ In64 n ∧ FitO l ∧ l.length ≤ 8

theorem cfit_no : CFit 0 0 [] := ⟨by simp [In64], by simp [In64], fun o ho => by simp at ho, by simp⟩
theorem cfit_ok {e n : Int} {l : List Bm.Ov} (h : Cm.chk e n l = 0) : CFit e n l := by
  obtain ⟨h1, h2, h3, h4, h5⟩ := Cm.chk_zero h
  exact ⟨⟨by omega, by omega⟩, ⟨by omega, by omega⟩, (small_of h5).fit, (Bm.chkL_zero h5).2.1⟩

/-- Commits so far. -/
structure ShS (b : Nat) (w : World) (vc : Value) (cs : List Cw) : Prop where
  c : OwnR 59 b w vc cs
  o : CopyR b w cs
  i : ∀ c ∈ cs, In64 c.e ∧ In64 c.n
  ap : ApC cs
  f : FitC cs

theorem ShS.nil (b : Nat) (w : World) : ShS b w (.slice none 0 0) [] := ⟨OwnR.nil _ _ _, fun c hc => by simp at hc, fun c hc => by simp at hc, fun i j c d _ hc => by simp at hc, fun c hc => by simp at hc⟩

theorem ShS.below {b : Nat} {w w' : World} {vc : Value} {cs : List Cw} (h : ShS b w vc cs) (hb : Below w.heap.size w w') : ShS b w' vc cs := ⟨h.c.below hb, h.o.below hb, h.i, h.ap, h.f⟩

theorem ShS.out {b : Nat} {w w' : World} {vc : Value} {cs : List Cw} {F : Nat → Prop} (h : ShS b w vc cs) (ho : Out F w w') (hF : ∀ i, F i → i < b) : ShS b w' vc cs := by
  have k : ∀ (v : Value), (∀ g, v.ownBlock = some g → b ≤ g ∧ g < w.heap.size) → ∀ g, v.ownBlock = some g → w'.heap[g]? = w.heap[g]? := fun v hv g hg => ho.block g (hv g hg).2 fun hf => by have := hF g hf; have := (hv g hg).1; omega
  exact ⟨row_agree h.c (k _ (World.ownsRow.lt h.c)), fun c hc => row_agree (h.o c hc) (k _ (World.ownsRow.lt (h.o c hc))), h.i, h.ap, h.f⟩

theorem ShS.rebase {b b' : Nat} {w : World} {vc : Value} {cs : List Cw} (h : ShS b w vc cs) (hb : b' ≤ b) : ShS b' w vc cs := ⟨row_rebase h.c hb, fun c hc => row_rebase (h.o c hc) hb, h.i, h.ap, h.f⟩

/-- One more. -/
theorem ShS.snoc {b : Nat} {w z4 : World} {vc v4 : Value} {cs : List Cw} {e n : Int} {vl : Value} {l : List Bm.Ov} {N : Nat} (h : ShS b w vc cs) (kp : KeepT 59 w z4) (hc : OwnR 59 b z4 v4 (cs ++ [⟨e, n, vl, l⟩])) (ho : OwnO 93 N w vl l) (hN : b ≤ N) (hlt : ∀ d ∈ cs, ∀ g, d.v.ownBlock = some g → g < N) (hf : CFit e n l) : ShS b z4 v4 (cs ++ [⟨e, n, vl, l⟩]) := by
  refine ⟨hc, (h.o.keepT kp).snoc ((ho.rebase hN).keepT kp (by decide)), fun c hcc => ?_, apc_snoc h.ap hlt (fun g hg => (World.ownsRow.lt ho g hg).1), fun c hcc => ?_⟩
  · rcases List.mem_append.1 hcc with hcc | hcc
    · exact h.i c hcc
    · rw [List.mem_singleton.1 hcc]; exact ⟨hf.1, hf.2.1⟩
  · rcases List.mem_append.1 hcc with hcc | hcc
    · exact h.f c hcc
    · rw [List.mem_singleton.1 hcc]; exact ⟨hf.2.2.1, by have := hf.2.2.2; show l.length * 40 ≤ _; omega⟩

/-- A commit is appended to a row of copies. -/
theorem ShS.push {b : Nat} {w w6 : World} {v : Value} {cs : List Cw} (h : ShS b w v cs) (hbw : b ≤ w.heap.size) (hb : Below w.heap.size w w6) (c : Cw) (hc : OwnO 93 w.heap.size w6 c.v c.l) (hf : CFit c.e c.n c.l) (hl : cs.length ≤ 2000000) :
    ∃ V, w6.alloc (.cells #[.int .i64 c.e, .int .i64 c.n, c.v] 59) = V ∧ Below w6.heap.size w6 V ∧ V.heap.size = w6.heap.size + 1 ∧ ∀ ty, ∃ v2 w2, (Builtin.append_ #[23, 23] ty #[v, .slice (some ⟨w6.heap.size, 0, none⟩) 1 1]).run Tryz.prog V = .ok v2 w2 ∧ ShS b w2 v2 (cs ++ [c]) ∧ V.grownBy w2 v.ownBlock ∧ ∃ a n k, v2 = .slice a n k := by
  obtain ⟨V, hV, szV, belV, ownV⟩ := coms_step 59 w6 #[.int .i64 c.e, .int .i64 c.n, c.v] 1 [c] rfl rfl (by simp [maxLen])
  have sz6 := hb.size
  have bwV : Below w.heap.size w V := hb.trans (belV.mono sz6)
  refine ⟨V, hV, belV, szV, fun ty => ?_⟩
  have hV' := h.below bwV
  obtain ⟨v2, w2, hr, own2, gr2, at2⟩ := run_append_coms_at (P := Tryz.prog) (w := V) 23 ty 59 b Tryz.underlying23 Tryz.info59 v cs hV'.c _ [c] ownV.row (fun d hd => by rw [List.mem_singleton.1 hd]; exact hc.is.one) (by simp; omega) (by omega)
  refine ⟨v2, w2, hr, ?_, gr2, ?_⟩
  · exact hV'.snoc (N := w.heap.size) (KeepT.of_row hV'.c gr2) own2 (hc.below belV) hbw (fun d hd g hg => (OwnO.block (h.o d hd) g hg).2) hf
  · obtain ⟨a1, k1, h1, _⟩ := own2.row.shape
    exact ⟨a1, _, k1, h1⟩

end Go.Proofs.YtkpnkknolobioaaGreat

/- Sections in memory; the document's Check of one (layer 19). -/
namespace Go.Proofs.YtkpnkknolobioaaGreat
open Go.RowKit
set_option linter.unusedVariables false

/-- A section in memory. -/
structure Sw where
  e : Int
  f : Int
  v : Value
  rs : List Cw
def Sw.s (x : Sw) : Orp.Se := ⟨x.e, x.f, cvs x.rs⟩
def Sw.c (x : Sw) : Cw := ⟨x.e, x.f, x.v, []⟩
def sws (l : List Sw) : List Orp.Se := l.map Sw.s
def swc (l : List Sw) : List Cw := l.map Sw.c

/-- A slice value that reads as sections. -/
def IsSe (w : World) (v : Value) (l : List Sw) : Prop := RowC w v (swc l) ∧ ∀ x ∈ l, IsC w x.v x.rs ∧ In64 x.e ∧ In64 x.f
def FitSe (l : List Sw) : Prop := ∀ x ∈ l, FitC x.rs ∧ x.rs.length * 40 ≤ 140737488351232

theorem IsSe.nil (w : World) : IsSe w (.slice none 0 0) [] := ⟨RowC.nil w, fun c hc => by simp at hc⟩
theorem IsSe.below {w w' : World} {v : Value} {l : List Sw} (h : IsSe w v l) (hb : Below w.heap.size w w') : IsSe w' v l := ⟨h.1.below hb, fun x hx => ⟨(h.2 x hx).1.below hb, (h.2 x hx).2⟩⟩
theorem swc_len (l : List Sw) : (swc l).length = l.length := by unfold swc; rw [List.length_map]
theorem swc_at {l : List Sw} {k : Nat} {x : Sw} (h : l[k]? = some x) : (swc l)[k]? = some x.c := by unfold swc; rw [List.getElem?_map, h]; rfl
theorem sws_len (l : List Sw) : (sws l).length = l.length := by unfold sws; rw [List.length_map]
theorem IsSe.shape {w : World} {v : Value} {l : List Sw} (h : IsSe w v l) : ∃ ao cap, v = .slice ao l.length cap ∧ l.length ≤ cap ∧ cap ≤ maxLen := by
  have := h.1.shape
  rwa [swc_len] at this
theorem IsSe.full {w : World} {v : Value} {l : List Sw} (h : IsSe w v l) (hne : 0 < l.length) :
    ∃ b off cap, v = .slice (some ⟨b, off, none⟩) l.length cap ∧ l.length ≤ cap ∧ cap ≤ maxLen ∧ b < w.heap.size ∧ ∀ i x, l[i]? = some x → w.cell? ⟨b, off + i * 3, none⟩ = some (.int .i64 x.e) ∧ w.cell? ⟨b, off + i * 3 + 1, none⟩ = some (.int .i64 x.f) ∧ w.cell? ⟨b, off + i * 3 + 2, none⟩ = some x.v := by
  obtain ⟨b, off, cap, h1, h2, h3, h4, h5⟩ := h.1.full (by rw [swc_len]; exact hne)
  rw [swc_len] at h1 h2
  exact ⟨b, off, cap, h1, h2, h3, h4, fun i x hx => h5 i x.c (swc_at hx)⟩

theorem cvs_two {rs : List Cw} {k : Nat} {c : Cw} (h : rs[k]? = some c) : (cvs rs)[k]? = some c.c := by
  unfold cvs
  rw [List.getElem?_map, h]
  rfl
theorem cvs_many (rs : List Cw) : (cvs rs).length = rs.length := by unfold cvs; rw [List.length_map]

/-- The epoch of the last one of some commits. -/
theorem last_any {rs : List Cw} {k : Nat} {c : Cw} (h : rs[k]? = some c) (hk : k + 1 = rs.length) (ep : Int) : Cm.lastE ep (cvs rs) = c.e := by
  have h1 := cvs_two h
  obtain ⟨hlt, e⟩ := List.getElem?_eq_some_iff.1 h1
  have h2 : cvs rs = (cvs rs).take k ++ [c.c] := by
    have : (cvs rs).take (k + 1) = cvs rs := List.take_of_length_le (by rw [cvs_many]; omega)
    rw [← this, List.take_succ_eq_append_getElem hlt, e, List.take_append_of_le_length (by rw [List.length_take]; omega), List.take_take, Nat.min_self]
  rw [h2, (Cm.last_snoc _ _ _ 0).1]
  rfl

set_option maxRecDepth 20000 in
set_option maxHeartbeats 2000000 in
theorem ochkR_any (e f : Int) (v : Value) (rs : List Cw) (w : World) (h : IsC w v rs) (hf : FitC rs) (hl : rs.length ≤ 140737488355328) :
    Calls Tryz.prog 65 #[cmv e f v] w fun E w' => E = .returned (.int .i64 (Orp.chk ⟨e, f, cvs rs⟩)) ∧ Below w.heap.size w w' := by
  unfold cmv
  obtain ⟨w1, hw1, sz1, bel1, hB⟩ := blk_step w #[.int .i64 e, .int .i64 f, v] 25
  have c0 : w1.cell? ⟨w.heap.size, 0, none⟩ = some (.int .i64 e) := blk_cell hB 0 rfl
  have c1 : w1.cell? ⟨w.heap.size, 1, none⟩ = some (.int .i64 f) := blk_cell hB 1 rfl
  have c2 : w1.cell? ⟨w.heap.size, 2, none⟩ = some v := blk_cell hB 2 rfl
  obtain ⟨ao, cap, hvl, hcap, hcm⟩ := h.1.shape
  have B1 := hide bel1
  by_cases ha : e < 1 ∨ 1048576 < e ∨ f < 0 ∨ rs.length = 0
  · rw [Orp.chk_arg (s := ⟨e, f, cvs rs⟩) (by rw [show (Orp.Se.mk e f (cvs rs)).cs = cvs rs from rfl, cvs_many]; exact ha)]
    subst hvl
    clear h hf hB bel1
    by_cases q1 : e < 1
    · clear ha
      go_enter Tryz.func65, Tryz.ntmps65
      go_wp2
      go_ret
      exact ⟨rfl, B1.out⟩
    by_cases q2 : 1048576 < e
    · clear ha
      go_enter Tryz.func65, Tryz.ntmps65
      go_wp2
      go_ret
      exact ⟨rfl, B1.out⟩
    by_cases q3 : f < 0
    · clear ha
      go_enter Tryz.func65, Tryz.ntmps65
      go_wp2
      go_ret
      exact ⟨rfl, B1.out⟩
    have q4 : rs.length = 0 := by omega
    rw [q4] at hw1 c2 ⊢
    clear ha hl hcap
    go_enter Tryz.func65, Tryz.ntmps65
    go_wp2
    go_ret
    exact ⟨rfl, B1.out⟩
  have h12 : ¬ ((Orp.Se.mk e f (cvs rs)).e < 1 ∨ 1048576 < (Orp.Se.mk e f (cvs rs)).e ∨ (Orp.Se.mk e f (cvs rs)).f < 0 ∨ (Orp.Se.mk e f (cvs rs)).cs.length = 0) := by
    rw [show (Orp.Se.mk e f (cvs rs)).cs = cvs rs from rfl, cvs_many]; exact ha
  have q1 : ¬ e < 1 := by omega
  have q2 : ¬ 1048576 < e := by omega
  have q3 : ¬ f < 0 := by omega
  have q4 : ((rs.length : Int) == 0) = false := by rw [beq_eq_false_iff_ne]; omega
  have X := hide (cfolR_any 1 f v rs w1 (h.below bel1) hf hl)
  unfold flv at X
  have HZ := hide (Cm.fol_at (cvs rs) 1 f 0)
  have HB := hide (fun k => Orp.chk_fol (s := ⟨e, f, cvs rs⟩) h12 k)
  have HO := hide (fun k q => Orp.chk_ord (s := ⟨e, f, cvs rs⟩) h12 k q)
  have HK := hide (fun k q => Orp.chk_ok (s := ⟨e, f, cvs rs⟩) h12 k q)
  obtain ⟨z, hz⟩ : ∃ z, Orp.chk ⟨e, f, cvs rs⟩ = z := ⟨_, rfl⟩
  rw [hz] at HB HO HK ⊢
  obtain ⟨n, hn⟩ : ∃ n, rs.length = n + 1 := ⟨rs.length - 1, by omega⟩
  obtain ⟨b, off, cap', hv, _, _, hb, hcell⟩ := h.1.full (by omega)
  obtain ⟨c, hc⟩ : ∃ c, rs[n]? = some c := ⟨rs[n]'(by omega), List.getElem?_eq_getElem _⟩
  have hla := last_any hc hn.symm 1
  have d0 := (bel1.cell (p := ⟨b, off + n * 3, none⟩) hb).trans (hcell n c hc).1
  have hb1 : b < w1.heap.size := by omega
  simp only at HB HO HK
  rw [hla] at HO HK
  obtain ⟨fl, hfl⟩ : ∃ g, Cm.fol 1 f 0 (cvs rs) = g := ⟨_, rfl⟩
  rw [hfl] at X HZ HB HO HK
  clear hz hfl
  obtain ⟨fe, fp⟩ := fl
  simp only at X HZ HB HO HK
  rw [hvl] at hv
  simp only [Value.slice.injEq, true_and] at hv
  obtain ⟨hao, hcp⟩ := hv
  subst hao hcp
  have g2 : IntKind.i64.wrap ((rs.length : Int) - 1) = (n : Int) := by rw [wrap64s _ (by omega) (by omega)]; omega
  have g3 : (n : Int) < (rs.length : Int) := by omega
  have g4 : (0 : Int) ≤ (n : Int) := by omega
  rw [hvl] at X
  subst hvl
  have HBB := hide hB
  clear h hf hcell hc hn hla h12 ha hB
  go_enter Tryz.func65, Tryz.ntmps65
  go_wp2_with fail
  refine X.out.mono ?_
  rintro E w2 ⟨rfl, bel2⟩
  obtain ⟨w3, hw3, hw3', sz3, bel3, hF, a0, a1⟩ := new_two w2 95 (.int .i64 0) (.int .i64 0) (.int .i64 fe) (.int .i64 fp)
  have bel13 : Below w1.heap.size w1 w3 := bel2.trans (bel3.mono bel2.size)
  have B3 := hide (B1.out.trans (bel13.mono (by omega)))
  have hB3 := (bel13.block w.heap.size (by omega)).trans HBB.out
  have k0 := blk_cell hB3 0 rfl
  have k2 := blk_cell hB3 2 rfl
  simp only [List.getElem_toArray, List.getElem_cons_zero, List.getElem_cons_succ] at k0 k2
  have d3 := (bel13.cell (p := ⟨b, off + n * 3, none⟩) hb1).trans d0
  have hnq := Tryz.neqF fe fp 0 0
  have hgd := Tryz.guardF
  clear X bel2 bel3 hF hB3 HBB bel13
  by_cases hfe : fe = 0
  · have hfp : fp = 0 := HZ.out hfe
    have hb : (!((fe == 0) && (fp == 0))) = false := by simp [hfe, hfp]
    rw [hb] at hnq
    by_cases h3 : e ≤ c.e
    · have HE := hide (HO.out hfe h3)
      clear HO HK HB HZ hfe hfp hb
      go_wp2_with fail
      go_quiet (fail)
      go_wp2
      go_ret
      exact ⟨by rw [HE.out]; rfl, below_drewN B3.out _⟩
    · have HE := hide (HK.out hfe (by omega))
      clear HO HK HB HZ hfe hfp hb
      go_wp2_with fail
      go_quiet (fail)
      go_wp2
      go_ret
      exact ⟨by rw [HE.out]; rfl, below_drewN B3.out _⟩
  · have hb : (!((fe == 0) && (fp == 0))) = true := by simp [hfe]
    rw [hb] at hnq
    have HE := hide (HB.out hfe)
    clear HO HK HB HZ hfe hb
    go_wp2
    go_ret
    exact ⟨by rw [HE.out]; rfl, B3.out⟩

end Go.Proofs.YtkpnkknolobioaaGreat

/- The program's Check of a section (layer 19). -/
namespace Go.Proofs.YtkpnkknolobioaaGreat
open Go.RowKit
set_option linter.unusedVariables false

set_option maxRecDepth 20000 in
set_option maxHeartbeats 2000000 in
theorem pochk_any (e f : Int) (v : Value) (rs : List Cw) (w : World) (h : IsC w v rs) (hf : FitC rs) (hl : rs.length ≤ 140737488355328) :
    Calls Tryz.prog 55 #[cmv e f v] w fun E w' => E = .returned (.int .i64 (Orp.chk ⟨e, f, cvs rs⟩)) ∧ Below w.heap.size w w' := by
  unfold cmv
  obtain ⟨w1, hw1, sz1, bel1, hB⟩ := blk_step w #[.int .i64 e, .int .i64 f, v] 25
  have c0 : w1.cell? ⟨w.heap.size, 0, none⟩ = some (.int .i64 e) := blk_cell hB 0 rfl
  have c1 : w1.cell? ⟨w.heap.size, 1, none⟩ = some (.int .i64 f) := blk_cell hB 1 rfl
  have c2 : w1.cell? ⟨w.heap.size, 2, none⟩ = some v := blk_cell hB 2 rfl
  obtain ⟨ao, cap, hvl, hcap, hcm⟩ := h.1.shape
  have B1 := hide bel1
  by_cases ha : e < 1 ∨ 1048576 < e ∨ f < 0 ∨ rs.length = 0
  · rw [Orp.chk_arg (s := ⟨e, f, cvs rs⟩) (by rw [show (Orp.Se.mk e f (cvs rs)).cs = cvs rs from rfl, cvs_many]; exact ha)]
    subst hvl
    clear h hf hB bel1
    by_cases q1 : e < 1
    · clear ha
      go_enter Tryz.func55, Tryz.ntmps55
      go_wp2
      go_ret
      exact ⟨rfl, B1.out⟩
    by_cases q2 : 1048576 < e
    · clear ha
      go_enter Tryz.func55, Tryz.ntmps55
      go_wp2
      go_ret
      exact ⟨rfl, B1.out⟩
    by_cases q3 : f < 0
    · clear ha
      go_enter Tryz.func55, Tryz.ntmps55
      go_wp2
      go_ret
      exact ⟨rfl, B1.out⟩
    have q4 : rs.length = 0 := by omega
    rw [q4] at hw1 c2 ⊢
    clear ha hl hcap
    go_enter Tryz.func55, Tryz.ntmps55
    go_wp2
    go_ret
    exact ⟨rfl, B1.out⟩
  have h12 : ¬ ((Orp.Se.mk e f (cvs rs)).e < 1 ∨ 1048576 < (Orp.Se.mk e f (cvs rs)).e ∨ (Orp.Se.mk e f (cvs rs)).f < 0 ∨ (Orp.Se.mk e f (cvs rs)).cs.length = 0) := by
    rw [show (Orp.Se.mk e f (cvs rs)).cs = cvs rs from rfl, cvs_many]; exact ha
  have q1 : ¬ e < 1 := by omega
  have q2 : ¬ 1048576 < e := by omega
  have q3 : ¬ f < 0 := by omega
  have q4 : ((rs.length : Int) == 0) = false := by rw [beq_eq_false_iff_ne]; omega
  have X := hide (cfol_any 1 f v rs w1 (h.below bel1) hf hl)
  unfold flv at X
  have HB := hide (fun k => Orp.chk_fol (s := ⟨e, f, cvs rs⟩) h12 k)
  have HO := hide (fun k q => Orp.chk_ord (s := ⟨e, f, cvs rs⟩) h12 k q)
  have HK := hide (fun k q => Orp.chk_ok (s := ⟨e, f, cvs rs⟩) h12 k q)
  obtain ⟨z, hz⟩ : ∃ z, Orp.chk ⟨e, f, cvs rs⟩ = z := ⟨_, rfl⟩
  rw [hz] at HB HO HK ⊢
  obtain ⟨n, hn⟩ : ∃ n, rs.length = n + 1 := ⟨rs.length - 1, by omega⟩
  obtain ⟨b, off, cap', hv, _, _, hb, hcell⟩ := h.1.full (by omega)
  obtain ⟨c, hc⟩ : ∃ c, rs[n]? = some c := ⟨rs[n]'(by omega), List.getElem?_eq_getElem _⟩
  have hla := last_any hc hn.symm 1
  have d0 := (bel1.cell (p := ⟨b, off + n * 3, none⟩) hb).trans (hcell n c hc).1
  have hb1 : b < w1.heap.size := by omega
  simp only at HB HO HK
  rw [hla] at HO HK
  obtain ⟨fl, hfl⟩ : ∃ g, Cm.fol 1 f 0 (cvs rs) = g := ⟨_, rfl⟩
  rw [hfl] at X HB HO HK
  clear hz hfl
  obtain ⟨fe, fp⟩ := fl
  simp only at X HB HO HK
  rw [hvl] at hv
  simp only [Value.slice.injEq, true_and] at hv
  obtain ⟨hao, hcp⟩ := hv
  subst hao hcp
  have g2 : IntKind.i64.wrap ((rs.length : Int) - 1) = (n : Int) := by rw [wrap64s _ (by omega) (by omega)]; omega
  have g3 : (n : Int) < (rs.length : Int) := by omega
  have g4 : (0 : Int) ≤ (n : Int) := by omega
  rw [hvl] at X
  subst hvl
  have HBB := hide hB
  clear h hf hcell hc hn hla h12 ha hB
  go_enter Tryz.func55, Tryz.ntmps55
  go_wp2_with fail
  refine X.out.mono ?_
  rintro E w2 ⟨rfl, bel2⟩
  obtain ⟨w3, hw3, hw3', sz3, bel3, hF, a0, a1⟩ := new_two w2 95 (.int .i64 0) (.int .i64 0) (.int .i64 fe) (.int .i64 fp)
  have bel13 : Below w1.heap.size w1 w3 := bel2.trans (bel3.mono bel2.size)
  have B3 := hide (B1.out.trans (bel13.mono (by omega)))
  have hB3 := (bel13.block w.heap.size (by omega)).trans HBB.out
  have k0 := blk_cell hB3 0 rfl
  have k2 := blk_cell hB3 2 rfl
  simp only [List.getElem_toArray, List.getElem_cons_zero, List.getElem_cons_succ] at k0 k2
  have d3 := (bel13.cell (p := ⟨b, off + n * 3, none⟩) hb1).trans d0
  clear X bel2 bel3 hF hB3 HBB bel13
  by_cases hfe : fe = 0
  · have hb : (fe != 0) = false := by simp [hfe]
    by_cases h3 : e ≤ c.e
    · have HE := hide (HO.out hfe h3)
      clear HO HK HB hfe
      go_wp2_with fail
      go_quiet (fail)
      go_wp2
      go_ret
      exact ⟨by rw [HE.out]; rfl, below_drewN B3.out _⟩
    · have HE := hide (HK.out hfe (by omega))
      clear HO HK HB hfe
      go_wp2_with fail
      go_quiet (fail)
      go_wp2
      go_ret
      exact ⟨by rw [HE.out]; rfl, below_drewN B3.out _⟩
  · have hb : (fe != 0) = true := by simp [hfe]
    have HE := hide (HB.out hfe)
    clear HO HK HB hfe
    go_wp2
    go_ret
    exact ⟨by rw [HE.out]; rfl, B3.out⟩

end Go.Proofs.YtkpnkknolobioaaGreat

/- The contracts of Encode: the program's, the document's; of the copy that slices.Clone makes of ops, and of Copy. -/
namespace Go.Proofs.YtkpnkknolobioaaGreat
open Go.RowKit
set_option linter.unusedVariables false

set_option maxHeartbeats 400000 in
theorem cenc_any (e n : Int) (v : Value) (l : List Bm.Ov) (w : World) (h : IsO w v l) (hf : FitO l) (hl : l.length ≤ 140737488355328) :
    Calls Tryz.prog 58 #[cmv e n v] w fun E w' => ∃ vb, E = .returned (.tuple #[vb, .int .i64 (Cm.chk e n l)]) ∧ Own .u8 5 w.heap.size w' vb (Cm.out e n l) ∧ Below w.heap.size w w' := by
  unfold cmv
  obtain ⟨ch, hch⟩ : ∃ c, Cm.chk e n l = c := ⟨_, rfl⟩
  obtain ⟨ou, hou⟩ : ∃ c, Cm.out e n l = c := ⟨_, rfl⟩
  rw [hch, hou]
  have HC := hide hch
  have HO := hide hou
  clear hch hou
  obtain ⟨w1, hw1, sz1, bel1, hB⟩ := blk_step w #[.int .i64 e, .int .i64 n, v] 59
  have c0 := blk_cell hB 0 rfl
  have c1 := blk_cell hB 1 rfl
  have c2 := blk_cell hB 2 rfl
  have h1 := h.below bel1
  obtain ⟨ao, cap, rfl, _, _⟩ := h.shape
  have BB := hide hB
  clear hB
  go_enter Tryz.func58, Tryz.ntmps58
  go_wp2_with fail
  refine (ccheck_any e n _ l _ h1 hf hl).mono ?_
  rintro E w2 ⟨rfl, bel2⟩
  rw [HC.out]
  have sz2 := bel2.size
  have hB2 := (bel2.block _ (by omega)).trans BB.out
  have d0 := blk_cell hB2 0 rfl
  have d1 := blk_cell hB2 1 rfl
  have d2 := blk_cell hB2 2 rfl
  have h2 := h1.below bel2
  have bel02 := bel1.trans (bel2.mono (by omega))
  have B2 := hide hB2
  clear BB c0 c1 c2 hB2 bel1 bel2 h1
  by_cases hc : ch = 0
  · subst hc
    have hc := HC.out
    obtain ⟨g1, g2, g3, g4, g5⟩ := Cm.chk_zero hc
    have hO := HO.out
    rw [Cm.out_ok hc, Cm.encC] at hO
    replace HO := hide hO
    clear hO
    have hs1 := Cm.enc_small g2
    have hs2 := Cm.enc_small g4
    clear hc
    go_wp2_with fail
    refine (app_any _ [] e _ (Is.nil _ _) (by simp) (by omega) (by omega)).mono ?_
    rintro E w3 ⟨vb, rfl, own3, bel3⟩
    have sz3 := bel3.size
    have hB3 := (bel3.block _ (by omega)).trans B2.out
    have f1 := blk_cell hB3 1 rfl
    have h3 := h2.below bel3
    have bel03 := bel02.trans (bel3.mono (by omega))
    have B3 := hide hB3
    rw [List.nil_append] at own3
    clear B2 d0 d1 d2 hB3 bel3 h2 bel02
    go_wp2_with fail
    refine (app_any _ _ n _ own3.is (by omega) (by omega) (by omega)).mono ?_
    rintro E w4 ⟨vc, rfl, own4, bel4⟩
    have sz4 := bel4.size
    have hB4 := (bel4.block _ (by omega)).trans B3.out
    have q2 := blk_cell hB4 2 rfl
    have h4 := h3.below bel4
    have bel04 := bel03.trans (bel4.mono (by omega))
    clear B3 f1 hB4 bel4 h3 bel03 own3
    go_wp2_with fail
    refine (bapp_any _ _ _ l _ own4.is (by rw [List.length_append]; omega) h4 hf hl).mono ?_
    rintro E w5 ⟨vd, rfl, own5, bel5⟩
    rw [g5]
    rw [Bm.appB_ok g5, List.append_assoc, HO.out] at own5
    have own5' := own5.rebase (base' := w.heap.size) (by omega)
    have bel05 := bel04.trans (bel5.mono (by omega))
    clear own5 own4 h4 bel04 bel5
    go_wp2
    refine bodyPost_ret (v := .tuple #[vd, .int .i64 0]) (by simp [results, Tryz.results58, go_sem]) rfl ?_
    exact ⟨_, rfl, own5', bel05⟩
  · have hne : (ch == 0) = false := by simpa using hc
    have hO := HO.out
    rw [Cm.out_no (by rw [HC.out]; exact hc)] at hO
    subst hO
    clear hc
    go_wp2
    refine bodyPost_ret (v := .tuple #[.slice none 0 0, .int .i64 ch]) (by simp [results, Tryz.results58, go_sem]) rfl ?_
    exact ⟨_, rfl, Own.nil _ _ _ _, bel02⟩

set_option maxHeartbeats 400000 in
theorem cencR_any (e n : Int) (v : Value) (l : List Bm.Ov) (w : World) (h : IsO w v l) (hf : FitO l) (hl : l.length ≤ 140737488355328) :
    Calls Tryz.prog 86 #[cmv e n v] w fun E w' => ∃ vb, E = .returned (.tuple #[vb, .int .i64 (Cm.chk e n l)]) ∧ Own .u8 5 w.heap.size w' vb (Cm.out e n l) ∧ Below w.heap.size w w' := by
  unfold cmv
  obtain ⟨ch, hch⟩ : ∃ c, Cm.chk e n l = c := ⟨_, rfl⟩
  obtain ⟨ou, hou⟩ : ∃ c, Cm.out e n l = c := ⟨_, rfl⟩
  rw [hch, hou]
  have HC := hide hch
  have HO := hide hou
  clear hch hou
  obtain ⟨w1, hw1, sz1, bel1, hB⟩ := blk_step w #[.int .i64 e, .int .i64 n, v] 59
  have c0 := blk_cell hB 0 rfl
  have c1 := blk_cell hB 1 rfl
  have c2 := blk_cell hB 2 rfl
  have h1 := h.below bel1
  obtain ⟨ao, cap, rfl, _, _⟩ := h.shape
  have BB := hide hB
  clear hB
  go_enter Tryz.func86, Tryz.ntmps86
  go_wp2_with fail
  refine (ccheckR_any e n _ l _ h1 hf hl).mono ?_
  rintro E w2 ⟨rfl, bel2⟩
  rw [HC.out]
  have sz2 := bel2.size
  have hB2 := (bel2.block _ (by omega)).trans BB.out
  have d0 := blk_cell hB2 0 rfl
  have d1 := blk_cell hB2 1 rfl
  have d2 := blk_cell hB2 2 rfl
  have h2 := h1.below bel2
  have bel02 := bel1.trans (bel2.mono (by omega))
  have B2 := hide hB2
  clear BB c0 c1 c2 hB2 bel1 bel2 h1
  by_cases hc : ch = 0
  · subst hc
    have hc := HC.out
    obtain ⟨g1, g2, g3, g4, g5⟩ := Cm.chk_zero hc
    have hO := HO.out
    rw [Cm.out_ok hc, Cm.encC] at hO
    replace HO := hide hO
    clear hO
    have hs1 := Cm.enc_small g2
    have hs2 := Cm.enc_small g4
    clear hc
    go_wp2_with fail
    refine (putR_any _ [] e _ (Is.nil _ _) (by simp) (by omega) (by omega)).mono ?_
    rintro E w3 ⟨vb, rfl, own3, bel3⟩
    have sz3 := bel3.size
    have hB3 := (bel3.block _ (by omega)).trans B2.out
    have f1 := blk_cell hB3 1 rfl
    have h3 := h2.below bel3
    have bel03 := bel02.trans (bel3.mono (by omega))
    have B3 := hide hB3
    rw [List.nil_append] at own3
    clear B2 d0 d1 d2 hB3 bel3 h2 bel02
    go_wp2_with fail
    refine (putR_any _ _ n _ own3.is (by omega) (by omega) (by omega)).mono ?_
    rintro E w4 ⟨vc, rfl, own4, bel4⟩
    have sz4 := bel4.size
    have hB4 := (bel4.block _ (by omega)).trans B3.out
    have q2 := blk_cell hB4 2 rfl
    have h4 := h3.below bel4
    have bel04 := bel03.trans (bel4.mono (by omega))
    clear B3 f1 hB4 bel4 h3 bel03 own3
    go_wp2_with fail
    refine (bappR_any _ _ _ l _ own4.is (by rw [List.length_append]; omega) h4 hf hl).mono ?_
    rintro E w5 ⟨vd, rfl, own5, bel5⟩
    rw [g5]
    rw [Bm.appB_ok g5, List.append_assoc, HO.out] at own5
    have own5' := own5.rebase (base' := w.heap.size) (by omega)
    have bel05 := bel04.trans (bel5.mono (by omega))
    clear own5 own4 h4 bel04 bel5
    go_wp2
    refine bodyPost_ret (v := .tuple #[vd, .int .i64 0]) (by simp [results, Tryz.results86, go_sem]) rfl ?_
    exact ⟨_, rfl, own5', bel05⟩
  · have hne : (ch == 0) = false := by simpa using hc
    have hO := HO.out
    rw [Cm.out_no (by rw [HC.out]; exact hc)] at hO
    subst hO
    clear hc
    go_wp2
    refine bodyPost_ret (v := .tuple #[.slice none 0 0, .int .i64 ch]) (by simp [results, Tryz.results86, go_sem]) rfl ?_
    exact ⟨_, rfl, Own.nil _ _ _ _, bel02⟩

end Go.Proofs.YtkpnkknolobioaaGreat

/- Rows of lists of bytes in memory. No program but its types. -/
namespace Go.Proofs.YtkpnkknolobioaaGreat
open Go.RowKit
set_option linter.unusedVariables false

/-- A list of bytes of a row: its value, its bytes. -/
structure Bw where
  v : Value
  l : List Int

def bwc (a : Bw) : List Value := [a.v]
theorem bwc_len (a : Bw) : (bwc a).length = 1 := rfl

/-- A slice value that reads as the lists r. -/
def IsBB (w : World) (v : Value) (r : List Bw) : Prop := RowG bwc w v r ∧ ∀ a ∈ r, Is .u8 w a.v a.l

theorem IsBB.below {w w' : World} {v : Value} {r : List Bw} (h : IsBB w v r) (hb : Below w.heap.size w w') : IsBB w' v r := ⟨h.1.below hb, fun a ha => (h.2 a ha).below hb⟩

theorem IsBB.nil (w : World) : IsBB w (.slice none 0 0) [] := ⟨RowG.nil _ _, fun a ha => by simp at ha⟩

theorem IsBB.full {w : World} {v : Value} {r : List Bw} (h : IsBB w v r) (hne : 0 < r.length) :
    ∃ b off cap, v = .slice (some ⟨b, off, none⟩) r.length cap ∧ r.length ≤ cap ∧ cap ≤ maxLen ∧ b < w.heap.size ∧ ∀ i a, r[i]? = some a → w.cell? ⟨b, off + i, none⟩ = some a.v := by
  obtain ⟨b, off, cap, h1, h2, h3, h4, h5⟩ := h.1.full bwc_len (by decide) hne
  refine ⟨b, off, cap, h1, h2, h3, h4, fun i a ha => ?_⟩
  have := h5 i a ha 0 a.v rfl
  simpa using this

theorem bwc_one (l : List Bw) (h : ∀ a ∈ l, ∃ ao n c, a.v = .slice ao n c) : ∀ u ∈ gcells bwc l, u.oneCell' = true := by
  induction l with
  | nil => simp [gcells]
  | cons x l ih =>
    intro u hu
    rw [gcells, List.mem_append] at hu
    rcases hu with hu | hu
    · obtain ⟨a, n, c, hv⟩ := h x (by simp)
      simp [bwc] at hu
      rw [hu, hv]
      rfl
    · exact ih (fun y hy => h y (by simp [hy])) u hu

/-- Lists of the call's own, each in a block of its own, in a row of the call's own. -/
structure OwnB (base : Nat) (w : World) (v : Value) (r : List Bw) : Prop where
  row : OwnG bwc 1 22 base w v r
  own : ∀ a ∈ r, Own .u8 5 base w a.v a.l
  apart : r.Pairwise (fun a b => ∀ g, a.v.ownBlock = some g → b.v.ownBlock ≠ some g)

theorem OwnB.nil (base : Nat) (w : World) : OwnB base w (.slice none 0 0) [] := ⟨OwnG.nil _ _ _ _ _, fun a ha => by simp at ha, List.Pairwise.nil⟩

theorem OwnB.is {base : Nat} {w : World} {v : Value} {r : List Bw} (h : OwnB base w v r) : IsBB w v r := ⟨h.row.row, fun a ha => (h.own a ha).is⟩

theorem OwnB.below {base : Nat} {w w' : World} {v : Value} {r : List Bw} (h : OwnB base w v r) (hb : Below w.heap.size w w') : OwnB base w' v r :=
  ⟨h.row.agree fun b hb' => hb.block b (h.row.lt b hb').2, fun a ha => (h.own a ha).below hb, h.apart⟩

theorem bw_ne {w : World} {u v : Value} {b1 b2 : Nat} {r : List Bw} {zs : List Int} (h : Own .u8 5 b1 w u zs) (hr : OwnG bwc 1 22 b2 w v r) : u.ownBlock = none ∨ u.ownBlock ≠ v.ownBlock := by
  cases hu : u.ownBlock with
  | none => exact .inl rfl
  | some b =>
    refine .inr fun e' => ?_
    obtain ⟨c1, h1⟩ := h.type hu
    obtain ⟨c2, h2⟩ := hr.type e'.symm
    rw [h1] at h2
    simp at h2

/-- One list more, made since. -/
theorem OwnB.app {base : Nat} {w0 w w' : World} {v v' : Value} {r : List Bw} {a : Bw} (h : OwnB base w0 v r) (hb : Below w0.heap.size w0 w) (hbase : base ≤ w0.heap.size)
    (o1 : Own .u8 5 w0.heap.size w a.v a.l) (hr : OwnG bwc 1 22 base w' v' (r ++ [a])) (hg : w.grownBy w' v.ownBlock) : OwnB base w' v' (r ++ [a]) := by
  have k := h.below hb
  refine ⟨hr, fun c hc => ?_, List.pairwise_append.2 ⟨h.apart, List.pairwise_singleton _ _, fun c hc d hd => ?_⟩⟩
  · rcases List.mem_append.1 hc with hc | hc
    · exact (k.own c hc).kept hg (bw_ne (k.own c hc) k.row)
    · simp at hc
      subst hc
      exact (o1.rebase hbase).kept hg (bw_ne o1 k.row)
  · simp at hd
    subst hd
    intro g hg' e
    have h1 := ((h.own c hc).block g hg').2
    have h2 := (o1.block g e).1
    omega

end Go.Proofs.YtkpnkknolobioaaGreat

/- bytes.Clone. -/
namespace Go.Proofs.YtkpnkknolobioaaGreat
open Go.RowKit
set_option linter.unusedVariables false

theorem Tryz.eqnil (w : World) (a : Option Addr) (n c : Nat) : (binOp .eql 22 (.slice a n c) (.slice none 0 0)).run Tryz.prog w = .ok (.bool a.isNone) w := Lib.run_eql_slice_nil w 22 5 a n c 0 0 Tryz.underlying22

set_option maxHeartbeats 1000000 in
theorem bclone_any (v : Value) (bs : List Int) (w : World) (h : Is .u8 w v bs) (hl : bs.length ≤ 140737488355328) :
    Calls Tryz.prog 37 #[v] w fun E w' => ∃ v', E = .returned v' ∧ Own .u8 5 w.heap.size w' v' bs ∧ Below w.heap.size w w' := by
  rcases h.2 with ⟨hv, hz⟩ | ⟨ad, cap, hv, h1, h2, hc⟩
  · subst hz hv
    have hq := Tryz.eqnil w none 0 0
    clear h
    go_enter Tryz.func37, Tryz.ntmps37
    go_wp2
    go_ret
    exact ⟨_, rfl, Own.nil _ _ _ _, Below.refl _ _⟩
  · obtain ⟨w1, hw1, sz1, bel1, own1⟩ := own_step .u8 5 w #[] 0 [] rfl rfl (by simp) (by simp)
    have hq := Tryz.eqnil w (some ad) bs.length cap
    simp only [Option.isNone_some] at hq
    have h1' := h.below bel1
    subst hv
    have X : Hid (∀ ty, ∃ v' w', (Builtin.append_ #[22, 22] ty #[.slice (some ⟨w.heap.size, 0, none⟩) 0 0, .slice (some ad) bs.length cap]).run Tryz.prog w1 = .ok v' w' ∧ (Own .u8 5 w.heap.size w' v' bs ∧ Below w.heap.size w w')) := hide fun ty => by
      obtain ⟨v', w', hr, ho, hg, _⟩ := run_append_is_at (P := Tryz.prog) 22 ty .u8 5 w.heap.size 1 Tryz.underlying22 Tryz.info5 (by decide) _ [] own1 _ bs h1' (by simp; omega) (by omega)
      exact ⟨v', w', hr, by simpa using ho, bel1.grown hg (by omega) fun k hk => by simp [Value.ownBlock] at hk; omega⟩
    clear own1 h1' h hc
    go_enter Tryz.func37, Tryz.ntmps37
    go_wp2_with (at_builtin; refine wpList_append_at rfl (.tmp 5) (.tmp 6) 22 rfl _ _ rfl rfl X.out ?_)
    intro v2 w2 own2 bel2
    go_wp2
    go_ret
    exact ⟨_, rfl, own2, bel2⟩

end Go.Proofs.YtkpnkknolobioaaGreat

/- slices.Grow of nothing, slices.Concat, frame.Append. -/
namespace Go.Proofs.YtkpnkknolobioaaGreat
open Go.RowKit
set_option linter.unusedVariables false

theorem Tryz.intT : Tryz.prog.underlying 3 = some (.int .i64) := by kernel_rfl

theorem zeros_u8 (n : Nat) : (Builtin.zeroCells (Value.int .u8 0).cells n).toList = (List.replicate n (0 : Int)).map (Value.int .u8) := by
  apply List.ext_getElem?
  intro i
  simp [Builtin.zeroCells, Value.cells, List.getElem?_replicate]
  by_cases h : i < n <;> simp [h, Nat.mod_one]

/-- An append of zeros to nothing: a row of the call's own. -/
theorem run_zeros (w : World) (n : Nat) (h0 : 0 < n) (h1 : n ≤ 150000000000000) : Hid (∀ ty, ∃ v' w', (Builtin.append_ #[22, 3] ty #[.slice none 0 0, .int .i64 n]).run Tryz.prog w = .ok v' w' ∧ Own .u8 5 w.heap.size w' v' (List.replicate n 0) ∧ Below w.heap.size w w') := by
  obtain ⟨i, hi, hz, hsize, hb⟩ := info_parts Tryz.info5
  refine hide fun ty => ⟨_, _, Lib.run_append_nil_zeros w 22 3 ty 5 i (.int .u8 0) .i64 .i64 Tryz.underlying22 Tryz.intT hi hz n h0 (by omega) (by omega) (by rw [hb]; omega), ?_, ?_⟩
  · refine ⟨fun z hz => ?_, ?_⟩
    · rw [List.eq_of_mem_replicate hz]; rfl
    · rw [List.length_replicate]
      refine own_new w (Value.int .u8 0).cells rfl _ n _ (by simp [Value.cells]) (grownCap_ge w n 0 _) (grownCap_le_maxLen w n 0 _ (by unfold maxLen; omega)) (Nat.le_refl _) _ ?_
      rw [← zeros_u8 n]
  · exact (Below.refl _ _).grown (grown_new w _ none) (Nat.le_refl _) (fun k hk => by cases hk)

theorem wpList_append_ran {P : Program} {w : World} {ops : Array Oper} {rest : List Oper} {o : Oper} {a : Act} {Q : Exit → Act → World → Prop} (hgd : o.guard = none) (s x : Operand) (t tn : TypeId) (ho : o.op = .call { callee := .builtin .append, args := #[s, x], argTypes := #[t, tn] })
    (v vx : Value) (hs : a.eval s = v) (hx : a.eval x = vx) {R : Value → World → Prop} (hrun : ∀ ty, ∃ v' w', (Builtin.append_ #[t, tn] ty #[v, vx]).run P w = .ok v' w' ∧ R v' w')
    (h : ∀ v' w', R v' w' → wpList P ops Q rest (a.put o.dst v') w') : wpList P ops Q (o :: rest) a w := by
  obtain ⟨v', w', hr, hR⟩ := hrun o.type
  exact Lib.wpList_append_run w hgd s x t tn ho v vx hs hx v' w' hr (h v' w' hR)

set_option maxHeartbeats 1000000 in
theorem fgrow_any (n : Nat) (w : World) (h1 : n ≤ 150000000000000) :
    Calls Tryz.prog 100 #[.slice none 0 0, .int .i64 n] w fun E w' => ∃ v', E = .returned v' ∧ Own .u8 5 w.heap.size w' v' [] ∧ Below w.heap.size w w' := by
  have hn0 : ¬ (n : Int) < 0 := by omega
  have e1 : IntKind.i64.wrap ((n : Int) - 0) = n := by rw [wrap_i64_small _ (by omega) (by omega)]; omega
  have hsl := (Own.nil .u8 5 w.heap.size w).is.slice_h Tryz.elemP Tryz.sizeP 0 (by simp)
  by_cases h0 : 0 < n
  · have X := run_zeros w n h0 h1
    have hn1 : (0 : Int) < n := by omega
    go_enter Tryz.func100, Tryz.ntmps100
    go_wp2_with (at_builtin; refine wpList_append_ran rfl (.tmp 20) (.tmp 21) 22 3 rfl _ _ rfl rfl X.out ?_)
    intro v2 w2 own2 bel2
    obtain ⟨vs, hvs, owns, _⟩ := own2.slice_h Tryz.elemP Tryz.sizeP 0 (by omega)
    have hvs' := hvs w2
    simp only [Int.natCast_zero] at hvs'
    clear X hvs hsl own2
    go_wp2
    go_ret
    exact ⟨_, rfl, by simpa using owns, bel2⟩
  · obtain rfl : n = 0 := by omega
    clear e1
    go_enter Tryz.func100, Tryz.ntmps100
    go_wp2
    go_ret
    exact ⟨_, rfl, Own.nil _ _ _ _, Below.refl _ _⟩

end Go.Proofs.YtkpnkknolobioaaGreat
