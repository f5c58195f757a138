/- Texts of one layer, one behind the other. -/
import Derived.Test.YtkpnkknolobioaaG12
import Derived.Test.YtkpnkknolobioaaG1
import Derived.Test.YtkpnkknolobioaaG7
import Derived.Test.YtkpnkknolobioaaG6
import Derived.Test.YtkpnkknolobioaaG2
import Derived.Lib.SliceRun
import Derived.Test.YtkpnkknolobioaaG4
import Derived.Test.YtkpnkknolobioaaG3
import Derived.Lib.AppendZeros
/- Sections in memory; the document's Check of one (layer 19). -/
namespace Go.Proofs.Ytkpnkknolobioaa
open Go.RowKit
set_option linter.unusedVariables false

/-- A section in memory. -/
structure Sw where
  e : Int
  f : Int
  v : Value
  rs : List Cw
def Sw.s (x : Sw) : Orp.Se := ⟨x.e, x.f, cvs x.rs⟩
def Sw.c (x : Sw) : Cw := ⟨x.e, x.f, x.v, []⟩
def sws (l : List Sw) : List Orp.Se := l.map Sw.s
def swc (l : List Sw) : List Cw := l.map Sw.c

/-- A slice value that reads as sections. -/
def IsSe (w : World) (v : Value) (l : List Sw) : Prop := RowC w v (swc l) ∧ ∀ x ∈ l, IsC w x.v x.rs ∧ In64 x.e ∧ In64 x.f
def FitSe (l : List Sw) : Prop := ∀ x ∈ l, FitC x.rs ∧ x.rs.length * 40 ≤ 140737488351232

theorem IsSe.nil (w : World) : IsSe w (.slice none 0 0) [] := ⟨RowC.nil w, fun c hc => by simp at hc⟩
theorem IsSe.below {w w' : World} {v : Value} {l : List Sw} (h : IsSe w v l) (hb : Below w.heap.size w w') : IsSe w' v l := ⟨h.1.below hb, fun x hx => ⟨(h.2 x hx).1.below hb, (h.2 x hx).2⟩⟩
theorem swc_len (l : List Sw) : (swc l).length = l.length := by unfold swc; rw [List.length_map]
theorem swc_at {l : List Sw} {k : Nat} {x : Sw} (h : l[k]? = some x) : (swc l)[k]? = some x.c := by unfold swc; rw [List.getElem?_map, h]; rfl
theorem sws_len (l : List Sw) : (sws l).length = l.length := by unfold sws; rw [List.length_map]
theorem IsSe.shape {w : World} {v : Value} {l : List Sw} (h : IsSe w v l) : ∃ ao cap, v = .slice ao l.length cap ∧ l.length ≤ cap ∧ cap ≤ maxLen := by
  have := h.1.shape
  rwa [swc_len] at this
theorem IsSe.full {w : World} {v : Value} {l : List Sw} (h : IsSe w v l) (hne : 0 < l.length) :
    ∃ b off cap, v = .slice (some ⟨b, off, none⟩) l.length cap ∧ l.length ≤ cap ∧ cap ≤ maxLen ∧ b < w.heap.size ∧ ∀ i x, l[i]? = some x → w.cell? ⟨b, off + i * 3, none⟩ = some (.int .i64 x.e) ∧ w.cell? ⟨b, off + i * 3 + 1, none⟩ = some (.int .i64 x.f) ∧ w.cell? ⟨b, off + i * 3 + 2, none⟩ = some x.v := by
  obtain ⟨b, off, cap, h1, h2, h3, h4, h5⟩ := h.1.full (by rw [swc_len]; exact hne)
  rw [swc_len] at h1 h2
  exact ⟨b, off, cap, h1, h2, h3, h4, fun i x hx => h5 i x.c (swc_at hx)⟩

theorem cvs_two {rs : List Cw} {k : Nat} {c : Cw} (h : rs[k]? = some c) : (cvs rs)[k]? = some c.c := by
  unfold cvs
  rw [List.getElem?_map, h]
  rfl
theorem cvs_many (rs : List Cw) : (cvs rs).length = rs.length := by unfold cvs; rw [List.length_map]

/-- The epoch of the last one of some commits. -/
theorem last_any {rs : List Cw} {k : Nat} {c : Cw} (h : rs[k]? = some c) (hk : k + 1 = rs.length) (ep : Int) : Cm.lastE ep (cvs rs) = c.e := by
  have h1 := cvs_two h
  obtain ⟨hlt, e⟩ := List.getElem?_eq_some_iff.1 h1
  have h2 : cvs rs = (cvs rs).take k ++ [c.c] := by
    have : (cvs rs).take (k + 1) = cvs rs := List.take_of_length_le (by rw [cvs_many]; omega)
    rw [← this, List.take_succ_eq_append_getElem hlt, e, List.take_append_of_le_length (by rw [List.length_take]; omega), List.take_take, Nat.min_self]
  rw [h2, (Cm.last_snoc _ _ _ 0).1]
  rfl

set_option maxRecDepth 20000 in
set_option maxHeartbeats 2000000 in
theorem ochkR_any (e f : Int) (v : Value) (rs : List Cw) (w : World) (h : IsC w v rs) (hf : FitC rs) (hl : rs.length ≤ 140737488355328) :
    Calls Try.prog 19 #[cmv e f v] w fun E w' => E = .returned (.int .i64 (Orp.chk ⟨e, f, cvs rs⟩)) ∧ Below w.heap.size w w' := by
  unfold cmv
  obtain ⟨w1, hw1, sz1, bel1, hB⟩ := blk_step w #[.int .i64 e, .int .i64 f, v] 24
  have c0 : w1.cell? ⟨w.heap.size, 0, none⟩ = some (.int .i64 e) := blk_cell hB 0 rfl
  have c1 : w1.cell? ⟨w.heap.size, 1, none⟩ = some (.int .i64 f) := blk_cell hB 1 rfl
  have c2 : w1.cell? ⟨w.heap.size, 2, none⟩ = some v := blk_cell hB 2 rfl
  obtain ⟨ao, cap, hvl, hcap, hcm⟩ := h.1.shape
  have B1 := hide bel1
  by_cases ha : e < 1 ∨ 1048576 < e ∨ f < 0 ∨ rs.length = 0
  · rw [Orp.chk_arg (s := ⟨e, f, cvs rs⟩) (by rw [show (Orp.Se.mk e f (cvs rs)).cs = cvs rs from rfl, cvs_many]; exact ha)]
    subst hvl
    clear h hf hB bel1
    by_cases q1 : e < 1
    · clear ha
      go_enter Try.func19, Try.ntmps19
      go_wp2
      go_ret
      exact ⟨rfl, B1.out⟩
    by_cases q2 : 1048576 < e
    · clear ha
      go_enter Try.func19, Try.ntmps19
      go_wp2
      go_ret
      exact ⟨rfl, B1.out⟩
    by_cases q3 : f < 0
    · clear ha
      go_enter Try.func19, Try.ntmps19
      go_wp2
      go_ret
      exact ⟨rfl, B1.out⟩
    have q4 : rs.length = 0 := by omega
    rw [q4] at hw1 c2 ⊢
    clear ha hl hcap
    go_enter Try.func19, Try.ntmps19
    go_wp2
    go_ret
    exact ⟨rfl, B1.out⟩
  have h12 : ¬ ((Orp.Se.mk e f (cvs rs)).e < 1 ∨ 1048576 < (Orp.Se.mk e f (cvs rs)).e ∨ (Orp.Se.mk e f (cvs rs)).f < 0 ∨ (Orp.Se.mk e f (cvs rs)).cs.length = 0) := by
    rw [show (Orp.Se.mk e f (cvs rs)).cs = cvs rs from rfl, cvs_many]; exact ha
  have q1 : ¬ e < 1 := by omega
  have q2 : ¬ 1048576 < e := by omega
  have q3 : ¬ f < 0 := by omega
  have q4 : ((rs.length : Int) == 0) = false := by rw [beq_eq_false_iff_ne]; omega
  have X := hide (cfolR_any 1 f v rs w1 (h.below bel1) hf hl)
  unfold flv at X
  have HZ := hide (Cm.fol_at (cvs rs) 1 f 0)
  have HB := hide (fun k => Orp.chk_fol (s := ⟨e, f, cvs rs⟩) h12 k)
  have HO := hide (fun k q => Orp.chk_ord (s := ⟨e, f, cvs rs⟩) h12 k q)
  have HK := hide (fun k q => Orp.chk_ok (s := ⟨e, f, cvs rs⟩) h12 k q)
  obtain ⟨z, hz⟩ : ∃ z, Orp.chk ⟨e, f, cvs rs⟩ = z := ⟨_, rfl⟩
  rw [hz] at HB HO HK ⊢
  obtain ⟨n, hn⟩ : ∃ n, rs.length = n + 1 := ⟨rs.length - 1, by omega⟩
  obtain ⟨b, off, cap', hv, _, _, hb, hcell⟩ := h.1.full (by omega)
  obtain ⟨c, hc⟩ : ∃ c, rs[n]? = some c := ⟨rs[n]'(by omega), List.getElem?_eq_getElem _⟩
  have hla := last_any hc hn.symm 1
  have d0 := (bel1.cell (p := ⟨b, off + n * 3, none⟩) hb).trans (hcell n c hc).1
  have hb1 : b < w1.heap.size := by omega
  simp only at HB HO HK
  rw [hla] at HO HK
  obtain ⟨fl, hfl⟩ : ∃ g, Cm.fol 1 f 0 (cvs rs) = g := ⟨_, rfl⟩
  rw [hfl] at X HZ HB HO HK
  clear hz hfl
  obtain ⟨fe, fp⟩ := fl
  simp only at X HZ HB HO HK
  rw [hvl] at hv
  simp only [Value.slice.injEq, true_and] at hv
  obtain ⟨hao, hcp⟩ := hv
  subst hao hcp
  have g2 : IntKind.i64.wrap ((rs.length : Int) - 1) = (n : Int) := by rw [wrap64s _ (by omega) (by omega)]; omega
  have g3 : (n : Int) < (rs.length : Int) := by omega
  have g4 : (0 : Int) ≤ (n : Int) := by omega
  rw [hvl] at X
  subst hvl
  have HBB := hide hB
  clear h hf hcell hc hn hla h12 ha hB
  go_enter Try.func19, Try.ntmps19
  go_wp2_with fail
  refine X.out.mono ?_
  rintro E w2 ⟨rfl, bel2⟩
  obtain ⟨w3, hw3, hw3', sz3, bel3, hF, a0, a1⟩ := new_two w2 63 (.int .i64 0) (.int .i64 0) (.int .i64 fe) (.int .i64 fp)
  have bel13 : Below w1.heap.size w1 w3 := bel2.trans (bel3.mono bel2.size)
  have B3 := hide (B1.out.trans (bel13.mono (by omega)))
  have hB3 := (bel13.block w.heap.size (by omega)).trans HBB.out
  have k0 := blk_cell hB3 0 rfl
  have k2 := blk_cell hB3 2 rfl
  simp only [List.getElem_toArray, List.getElem_cons_zero, List.getElem_cons_succ] at k0 k2
  have d3 := (bel13.cell (p := ⟨b, off + n * 3, none⟩) hb1).trans d0
  have hnq := Try.neqF fe fp 0 0
  have hgd := Try.guardF
  clear X bel2 bel3 hF hB3 HBB bel13
  by_cases hfe : fe = 0
  · have hfp : fp = 0 := HZ.out hfe
    have hb : (!((fe == 0) && (fp == 0))) = false := by simp [hfe, hfp]
    rw [hb] at hnq
    by_cases h3 : e ≤ c.e
    · have HE := hide (HO.out hfe h3)
      clear HO HK HB HZ hfe hfp hb
      go_wp2_with fail
      go_quiet (fail)
      go_wp2
      go_ret
      exact ⟨by rw [HE.out]; rfl, below_drewN B3.out _⟩
    · have HE := hide (HK.out hfe (by omega))
      clear HO HK HB HZ hfe hfp hb
      go_wp2_with fail
      go_quiet (fail)
      go_wp2
      go_ret
      exact ⟨by rw [HE.out]; rfl, below_drewN B3.out _⟩
  · have hb : (!((fe == 0) && (fp == 0))) = true := by simp [hfe]
    rw [hb] at hnq
    have HE := hide (HB.out hfe)
    clear HO HK HB HZ hfe hb
    go_wp2
    go_ret
    exact ⟨by rw [HE.out]; rfl, B3.out⟩

end Go.Proofs.Ytkpnkknolobioaa

/- The contracts of Encode: the program's, the document's; of the copy that slices.Clone makes of ops, and of Copy. -/
namespace Go.Proofs.Ytkpnkknolobioaa
open Go.RowKit
set_option linter.unusedVariables false

set_option maxHeartbeats 400000 in
theorem cenc_any (e n : Int) (v : Value) (l : List Bm.Ov) (w : World) (h : IsO w v l) (hf : FitO l) (hl : l.length ≤ 140737488355328) :
    Calls Try.prog 38 #[cmv e n v] w fun E w' => ∃ vb, E = .returned (.tuple #[vb, .int .i64 (Cm.chk e n l)]) ∧ Own .u8 5 w.heap.size w' vb (Cm.out e n l) ∧ Below w.heap.size w w' := by
  unfold cmv
  obtain ⟨ch, hch⟩ : ∃ c, Cm.chk e n l = c := ⟨_, rfl⟩
  obtain ⟨ou, hou⟩ : ∃ c, Cm.out e n l = c := ⟨_, rfl⟩
  rw [hch, hou]
  have HC := hide hch
  have HO := hide hou
  clear hch hou
  obtain ⟨w1, hw1, sz1, bel1, hB⟩ := blk_step w #[.int .i64 e, .int .i64 n, v] 32
  have c0 := blk_cell hB 0 rfl
  have c1 := blk_cell hB 1 rfl
  have c2 := blk_cell hB 2 rfl
  have h1 := h.below bel1
  obtain ⟨ao, cap, rfl, _, _⟩ := h.shape
  have BB := hide hB
  clear hB
  go_enter Try.func38, Try.ntmps38
  go_wp2_with fail
  refine (ccheck_any e n _ l _ h1 hf hl).mono ?_
  rintro E w2 ⟨rfl, bel2⟩
  rw [HC.out]
  have sz2 := bel2.size
  have hB2 := (bel2.block _ (by omega)).trans BB.out
  have d0 := blk_cell hB2 0 rfl
  have d1 := blk_cell hB2 1 rfl
  have d2 := blk_cell hB2 2 rfl
  have h2 := h1.below bel2
  have bel02 := bel1.trans (bel2.mono (by omega))
  have B2 := hide hB2
  clear BB c0 c1 c2 hB2 bel1 bel2 h1
  by_cases hc : ch = 0
  · subst hc
    have hc := HC.out
    obtain ⟨g1, g2, g3, g4, g5⟩ := Cm.chk_zero hc
    have hO := HO.out
    rw [Cm.out_ok hc, Cm.encC] at hO
    replace HO := hide hO
    clear hO
    have hs1 := Cm.enc_small g2
    have hs2 := Cm.enc_small g4
    clear hc
    go_wp2_with fail
    refine (app_any _ [] e _ (Is.nil _ _) (by simp) (by omega) (by omega)).mono ?_
    rintro E w3 ⟨vb, rfl, own3, bel3⟩
    have sz3 := bel3.size
    have hB3 := (bel3.block _ (by omega)).trans B2.out
    have f1 := blk_cell hB3 1 rfl
    have h3 := h2.below bel3
    have bel03 := bel02.trans (bel3.mono (by omega))
    have B3 := hide hB3
    rw [List.nil_append] at own3
    clear B2 d0 d1 d2 hB3 bel3 h2 bel02
    go_wp2_with fail
    refine (app_any _ _ n _ own3.is (by omega) (by omega) (by omega)).mono ?_
    rintro E w4 ⟨vc, rfl, own4, bel4⟩
    have sz4 := bel4.size
    have hB4 := (bel4.block _ (by omega)).trans B3.out
    have q2 := blk_cell hB4 2 rfl
    have h4 := h3.below bel4
    have bel04 := bel03.trans (bel4.mono (by omega))
    clear B3 f1 hB4 bel4 h3 bel03 own3
    go_wp2_with fail
    refine (bapp_any _ _ _ l _ own4.is (by rw [List.length_append]; omega) h4 hf hl).mono ?_
    rintro E w5 ⟨vd, rfl, own5, bel5⟩
    rw [g5]
    rw [Bm.appB_ok g5, List.append_assoc, HO.out] at own5
    have own5' := own5.rebase (base' := w.heap.size) (by omega)
    have bel05 := bel04.trans (bel5.mono (by omega))
    clear own5 own4 h4 bel04 bel5
    go_wp2
    refine bodyPost_ret (v := .tuple #[vd, .int .i64 0]) (by simp [results, Try.results38, go_sem]) rfl ?_
    exact ⟨_, rfl, own5', bel05⟩
  · have hne : (ch == 0) = false := by simpa using hc
    have hO := HO.out
    rw [Cm.out_no (by rw [HC.out]; exact hc)] at hO
    subst hO
    clear hc
    go_wp2
    refine bodyPost_ret (v := .tuple #[.slice none 0 0, .int .i64 ch]) (by simp [results, Try.results38, go_sem]) rfl ?_
    exact ⟨_, rfl, Own.nil _ _ _ _, bel02⟩

set_option maxHeartbeats 400000 in
theorem cencR_any (e n : Int) (v : Value) (l : List Bm.Ov) (w : World) (h : IsO w v l) (hf : FitO l) (hl : l.length ≤ 140737488355328) :
    Calls Try.prog 72 #[cmv e n v] w fun E w' => ∃ vb, E = .returned (.tuple #[vb, .int .i64 (Cm.chk e n l)]) ∧ Own .u8 5 w.heap.size w' vb (Cm.out e n l) ∧ Below w.heap.size w w' := by
  unfold cmv
  obtain ⟨ch, hch⟩ : ∃ c, Cm.chk e n l = c := ⟨_, rfl⟩
  obtain ⟨ou, hou⟩ : ∃ c, Cm.out e n l = c := ⟨_, rfl⟩
  rw [hch, hou]
  have HC := hide hch
  have HO := hide hou
  clear hch hou
  obtain ⟨w1, hw1, sz1, bel1, hB⟩ := blk_step w #[.int .i64 e, .int .i64 n, v] 32
  have c0 := blk_cell hB 0 rfl
  have c1 := blk_cell hB 1 rfl
  have c2 := blk_cell hB 2 rfl
  have h1 := h.below bel1
  obtain ⟨ao, cap, rfl, _, _⟩ := h.shape
  have BB := hide hB
  clear hB
  go_enter Try.func72, Try.ntmps72
  go_wp2_with fail
  refine (ccheckR_any e n _ l _ h1 hf hl).mono ?_
  rintro E w2 ⟨rfl, bel2⟩
  rw [HC.out]
  have sz2 := bel2.size
  have hB2 := (bel2.block _ (by omega)).trans BB.out
  have d0 := blk_cell hB2 0 rfl
  have d1 := blk_cell hB2 1 rfl
  have d2 := blk_cell hB2 2 rfl
  have h2 := h1.below bel2
  have bel02 := bel1.trans (bel2.mono (by omega))
  have B2 := hide hB2
  clear BB c0 c1 c2 hB2 bel1 bel2 h1
  by_cases hc : ch = 0
  · subst hc
    have hc := HC.out
    obtain ⟨g1, g2, g3, g4, g5⟩ := Cm.chk_zero hc
    have hO := HO.out
    rw [Cm.out_ok hc, Cm.encC] at hO
    replace HO := hide hO
    clear hO
    have hs1 := Cm.enc_small g2
    have hs2 := Cm.enc_small g4
    clear hc
    go_wp2_with fail
    refine (putR_any _ [] e _ (Is.nil _ _) (by simp) (by omega) (by omega)).mono ?_
    rintro E w3 ⟨vb, rfl, own3, bel3⟩
    have sz3 := bel3.size
    have hB3 := (bel3.block _ (by omega)).trans B2.out
    have f1 := blk_cell hB3 1 rfl
    have h3 := h2.below bel3
    have bel03 := bel02.trans (bel3.mono (by omega))
    have B3 := hide hB3
    rw [List.nil_append] at own3
    clear B2 d0 d1 d2 hB3 bel3 h2 bel02
    go_wp2_with fail
    refine (putR_any _ _ n _ own3.is (by omega) (by omega) (by omega)).mono ?_
    rintro E w4 ⟨vc, rfl, own4, bel4⟩
    have sz4 := bel4.size
    have hB4 := (bel4.block _ (by omega)).trans B3.out
    have q2 := blk_cell hB4 2 rfl
    have h4 := h3.below bel4
    have bel04 := bel03.trans (bel4.mono (by omega))
    clear B3 f1 hB4 bel4 h3 bel03 own3
    go_wp2_with fail
    refine (bappR_any _ _ _ l _ own4.is (by rw [List.length_append]; omega) h4 hf hl).mono ?_
    rintro E w5 ⟨vd, rfl, own5, bel5⟩
    rw [g5]
    rw [Bm.appB_ok g5, List.append_assoc, HO.out] at own5
    have own5' := own5.rebase (base' := w.heap.size) (by omega)
    have bel05 := bel04.trans (bel5.mono (by omega))
    clear own5 own4 h4 bel04 bel5
    go_wp2
    refine bodyPost_ret (v := .tuple #[vd, .int .i64 0]) (by simp [results, Try.results72, go_sem]) rfl ?_
    exact ⟨_, rfl, own5', bel05⟩
  · have hne : (ch == 0) = false := by simpa using hc
    have hO := HO.out
    rw [Cm.out_no (by rw [HC.out]; exact hc)] at hO
    subst hO
    clear hc
    go_wp2
    refine bodyPost_ret (v := .tuple #[.slice none 0 0, .int .i64 ch]) (by simp [results, Try.results72, go_sem]) rfl ?_
    exact ⟨_, rfl, Own.nil _ _ _ _, bel02⟩

end Go.Proofs.Ytkpnkknolobioaa

/- Rows of lists of bytes in memory. No program but its types. -/
namespace Go.Proofs.Ytkpnkknolobioaa
open Go.RowKit
set_option linter.unusedVariables false

/-- A list of bytes of a row: its value, its bytes. -/
structure Bw where
  v : Value
  l : List Int

def bwc (a : Bw) : List Value := [a.v]
theorem bwc_len (a : Bw) : (bwc a).length = 1 := rfl

/-- A slice value that reads as the lists r. -/
def IsBB (w : World) (v : Value) (r : List Bw) : Prop := RowG bwc w v r ∧ ∀ a ∈ r, Is .u8 w a.v a.l

theorem IsBB.below {w w' : World} {v : Value} {r : List Bw} (h : IsBB w v r) (hb : Below w.heap.size w w') : IsBB w' v r := ⟨h.1.below hb, fun a ha => (h.2 a ha).below hb⟩

theorem IsBB.nil (w : World) : IsBB w (.slice none 0 0) [] := ⟨RowG.nil _ _, fun a ha => by simp at ha⟩

theorem IsBB.full {w : World} {v : Value} {r : List Bw} (h : IsBB w v r) (hne : 0 < r.length) :
    ∃ b off cap, v = .slice (some ⟨b, off, none⟩) r.length cap ∧ r.length ≤ cap ∧ cap ≤ maxLen ∧ b < w.heap.size ∧ ∀ i a, r[i]? = some a → w.cell? ⟨b, off + i, none⟩ = some a.v := by
  obtain ⟨b, off, cap, h1, h2, h3, h4, h5⟩ := h.1.full bwc_len (by decide) hne
  refine ⟨b, off, cap, h1, h2, h3, h4, fun i a ha => ?_⟩
  have := h5 i a ha 0 a.v rfl
  simpa using this

theorem bwc_one (l : List Bw) (h : ∀ a ∈ l, ∃ ao n c, a.v = .slice ao n c) : ∀ u ∈ gcells bwc l, u.oneCell' = true := by
  induction l with
  | nil => simp [gcells]
  | cons x l ih =>
    intro u hu
    rw [gcells, List.mem_append] at hu
    rcases hu with hu | hu
    · obtain ⟨a, n, c, hv⟩ := h x (by simp)
      simp [bwc] at hu
      rw [hu, hv]
      rfl
    · exact ih (fun y hy => h y (by simp [hy])) u hu

/-- Lists of the call's own, each in a block of its own, in a row of the call's own. -/
structure OwnB (base : Nat) (w : World) (v : Value) (r : List Bw) : Prop where
  row : OwnG bwc 1 25 base w v r
  own : ∀ a ∈ r, Own .u8 5 base w a.v a.l
  apart : r.Pairwise (fun a b => ∀ g, a.v.ownBlock = some g → b.v.ownBlock ≠ some g)

theorem OwnB.nil (base : Nat) (w : World) : OwnB base w (.slice none 0 0) [] := ⟨OwnG.nil _ _ _ _ _, fun a ha => by simp at ha, List.Pairwise.nil⟩

theorem OwnB.is {base : Nat} {w : World} {v : Value} {r : List Bw} (h : OwnB base w v r) : IsBB w v r := ⟨h.row.row, fun a ha => (h.own a ha).is⟩

theorem OwnB.below {base : Nat} {w w' : World} {v : Value} {r : List Bw} (h : OwnB base w v r) (hb : Below w.heap.size w w') : OwnB base w' v r :=
  ⟨h.row.agree fun b hb' => hb.block b (h.row.lt b hb').2, fun a ha => (h.own a ha).below hb, h.apart⟩

theorem bw_ne {w : World} {u v : Value} {b1 b2 : Nat} {r : List Bw} {zs : List Int} (h : Own .u8 5 b1 w u zs) (hr : OwnG bwc 1 25 b2 w v r) : u.ownBlock = none ∨ u.ownBlock ≠ v.ownBlock := by
  cases hu : u.ownBlock with
  | none => exact .inl rfl
  | some b =>
    refine .inr fun e' => ?_
    obtain ⟨c1, h1⟩ := h.type hu
    obtain ⟨c2, h2⟩ := hr.type e'.symm
    rw [h1] at h2
    simp at h2

/-- One list more, made since. -/
theorem OwnB.app {base : Nat} {w0 w w' : World} {v v' : Value} {r : List Bw} {a : Bw} (h : OwnB base w0 v r) (hb : Below w0.heap.size w0 w) (hbase : base ≤ w0.heap.size)
    (o1 : Own .u8 5 w0.heap.size w a.v a.l) (hr : OwnG bwc 1 25 base w' v' (r ++ [a])) (hg : w.grownBy w' v.ownBlock) : OwnB base w' v' (r ++ [a]) := by
  have k := h.below hb
  refine ⟨hr, fun c hc => ?_, List.pairwise_append.2 ⟨h.apart, List.pairwise_singleton _ _, fun c hc d hd => ?_⟩⟩
  · rcases List.mem_append.1 hc with hc | hc
    · exact (k.own c hc).kept hg (bw_ne (k.own c hc) k.row)
    · simp at hc
      subst hc
      exact (o1.rebase hbase).kept hg (bw_ne o1 k.row)
  · simp at hd
    subst hd
    intro g hg' e
    have h1 := ((h.own c hc).block g hg').2
    have h2 := (o1.block g e).1
    omega

end Go.Proofs.Ytkpnkknolobioaa

/- bytes.Clone. -/
namespace Go.Proofs.Ytkpnkknolobioaa
open Go.RowKit
set_option linter.unusedVariables false

theorem Try.eqnil (w : World) (a : Option Addr) (n c : Nat) : (binOp .eql 25 (.slice a n c) (.slice none 0 0)).run Try.prog w = .ok (.bool a.isNone) w := Lib.run_eql_slice_nil w 25 5 a n c 0 0 Try.underlying25

set_option maxHeartbeats 1000000 in
theorem bclone_any (v : Value) (bs : List Int) (w : World) (h : Is .u8 w v bs) (hl : bs.length ≤ 140737488355328) :
    Calls Try.prog 64 #[v] w fun E w' => ∃ v', E = .returned v' ∧ Own .u8 5 w.heap.size w' v' bs ∧ Below w.heap.size w w' := by
  rcases h.2 with ⟨hv, hz⟩ | ⟨ad, cap, hv, h1, h2, hc⟩
  · subst hz hv
    have hq := Try.eqnil w none 0 0
    clear h
    go_enter Try.func64, Try.ntmps64
    go_wp2
    go_ret
    exact ⟨_, rfl, Own.nil _ _ _ _, Below.refl _ _⟩
  · obtain ⟨w1, hw1, sz1, bel1, own1⟩ := own_step .u8 5 w #[] 0 [] rfl rfl (by simp) (by simp)
    have hq := Try.eqnil w (some ad) bs.length cap
    simp only [Option.isNone_some] at hq
    have h1' := h.below bel1
    subst hv
    have X : Hid (∀ ty, ∃ v' w', (Builtin.append_ #[25, 25] ty #[.slice (some ⟨w.heap.size, 0, none⟩) 0 0, .slice (some ad) bs.length cap]).run Try.prog w1 = .ok v' w' ∧ (Own .u8 5 w.heap.size w' v' bs ∧ Below w.heap.size w w')) := hide fun ty => by
      obtain ⟨v', w', hr, ho, hg, _⟩ := run_append_is_at (P := Try.prog) 25 ty .u8 5 w.heap.size 1 Try.underlying25 Try.info5 (by decide) _ [] own1 _ bs h1' (by simp; omega) (by omega)
      exact ⟨v', w', hr, by simpa using ho, bel1.grown hg (by omega) fun k hk => by simp [Value.ownBlock] at hk; omega⟩
    clear own1 h1' h hc
    go_enter Try.func64, Try.ntmps64
    go_wp2_with (at_builtin; refine wpList_append_at rfl (.tmp 5) (.tmp 6) 25 rfl _ _ rfl rfl X.out ?_)
    intro v2 w2 own2 bel2
    go_wp2
    go_ret
    exact ⟨_, rfl, own2, bel2⟩

end Go.Proofs.Ytkpnkknolobioaa

/- slices.Grow of nothing, slices.Concat, frame.Append. -/
namespace Go.Proofs.Ytkpnkknolobioaa
open Go.RowKit
set_option linter.unusedVariables false

theorem Try.intT : Try.prog.underlying 3 = some (.int .i64) := by kernel_rfl

theorem zeros_u8 (n : Nat) : (Builtin.zeroCells (Value.int .u8 0).cells n).toList = (List.replicate n (0 : Int)).map (Value.int .u8) := by
  apply List.ext_getElem?
  intro i
  simp [Builtin.zeroCells, Value.cells, List.getElem?_replicate]
  by_cases h : i < n <;> simp [h, Nat.mod_one]

/-- An append of zeros to nothing: a row of the call's own. -/
theorem run_zeros (w : World) (n : Nat) (h0 : 0 < n) (h1 : n ≤ 150000000000000) : Hid (∀ ty, ∃ v' w', (Builtin.append_ #[25, 3] ty #[.slice none 0 0, .int .i64 n]).run Try.prog w = .ok v' w' ∧ Own .u8 5 w.heap.size w' v' (List.replicate n 0) ∧ Below w.heap.size w w') := by
  obtain ⟨i, hi, hz, hsize, hb⟩ := info_parts Try.info5
  refine hide fun ty => ⟨_, _, Lib.run_append_nil_zeros w 25 3 ty 5 i (.int .u8 0) .i64 .i64 Try.underlying25 Try.intT hi hz n h0 (by omega) (by omega) (by rw [hb]; omega), ?_, ?_⟩
  · refine ⟨fun z hz => ?_, ?_⟩
    · rw [List.eq_of_mem_replicate hz]; rfl
    · rw [List.length_replicate]
      refine own_new w (Value.int .u8 0).cells rfl _ n _ (by simp [Value.cells]) (grownCap_ge w n 0 _) (grownCap_le_maxLen w n 0 _ (by unfold maxLen; omega)) (Nat.le_refl _) _ ?_
      rw [← zeros_u8 n]
  · exact (Below.refl _ _).grown (grown_new w _ none) (Nat.le_refl _) (fun k hk => by cases hk)

theorem wpList_append_ran {P : Program} {w : World} {ops : Array Oper} {rest : List Oper} {o : Oper} {a : Act} {Q : Exit → Act → World → Prop} (hgd : o.guard = none) (s x : Operand) (t tn : TypeId) (ho : o.op = .call { callee := .builtin .append, args := #[s, x], argTypes := #[t, tn] })
    (v vx : Value) (hs : a.eval s = v) (hx : a.eval x = vx) {R : Value → World → Prop} (hrun : ∀ ty, ∃ v' w', (Builtin.append_ #[t, tn] ty #[v, vx]).run P w = .ok v' w' ∧ R v' w')
    (h : ∀ v' w', R v' w' → wpList P ops Q rest (a.put o.dst v') w') : wpList P ops Q (o :: rest) a w := by
  obtain ⟨v', w', hr, hR⟩ := hrun o.type
  exact Lib.wpList_append_run w hgd s x t tn ho v vx hs hx v' w' hr (h v' w' hR)

set_option maxHeartbeats 1000000 in
theorem fgrow_any (n : Nat) (w : World) (h1 : n ≤ 150000000000000) :
    Calls Try.prog 112 #[.slice none 0 0, .int .i64 n] w fun E w' => ∃ v', E = .returned v' ∧ Own .u8 5 w.heap.size w' v' [] ∧ Below w.heap.size w w' := by
  have hn0 : ¬ (n : Int) < 0 := by omega
  have e1 : IntKind.i64.wrap ((n : Int) - 0) = n := by rw [wrap_i64_small _ (by omega) (by omega)]; omega
  have hsl := (Own.nil .u8 5 w.heap.size w).is.slice_h Try.elemP Try.sizeP 0 (by simp)
  by_cases h0 : 0 < n
  · have X := run_zeros w n h0 h1
    have hn1 : (0 : Int) < n := by omega
    go_enter Try.func112, Try.ntmps112
    go_wp2_with (at_builtin; refine wpList_append_ran rfl (.tmp 20) (.tmp 21) 25 3 rfl _ _ rfl rfl X.out ?_)
    intro v2 w2 own2 bel2
    obtain ⟨vs, hvs, owns, _⟩ := own2.slice_h Try.elemP Try.sizeP 0 (by omega)
    have hvs' := hvs w2
    simp only [Int.natCast_zero] at hvs'
    clear X hvs hsl own2
    go_wp2
    go_ret
    exact ⟨_, rfl, by simpa using owns, bel2⟩
  · obtain rfl : n = 0 := by omega
    clear e1
    go_enter Try.func112, Try.ntmps112
    go_wp2
    go_ret
    exact ⟨_, rfl, Own.nil _ _ _ _, Below.refl _ _⟩

end Go.Proofs.Ytkpnkknolobioaa

/- slices.Concat, frame.Append, frame.size. -/
namespace Go.Proofs.Ytkpnkknolobioaa
open Go.RowKit
set_option linter.unusedVariables false

/-- The bytes of a row's lists, one behind the other. -/
def flt : List Bw → List Int
  | [] => []
  | a :: r => a.l ++ flt r

theorem flt_app : ∀ r s : List Bw, flt (r ++ s) = flt r ++ flt s
  | [], s => rfl
  | a :: r, s => by simp [flt, flt_app r s]

theorem flt_next {r : List Bw} {k : Nat} {a : Bw} (h : r[k]? = some a) : flt (r.take (k + 1)) = flt (r.take k) ++ a.l := by
  obtain ⟨h1, h2⟩ := List.getElem?_eq_some_iff.1 h
  rw [List.take_succ_eq_append_getElem h1, flt_app, h2]
  simp [flt]

theorem flt_le (r : List Bw) (k : Nat) : (flt (r.take k)).length ≤ (flt r).length := by
  have : flt r = flt (r.take k) ++ flt (r.drop k) := by rw [← flt_app, List.take_append_drop]
  rw [this, List.length_append]
  omega

set_option maxHeartbeats 2000000 in
theorem concat_any (v : Value) (r : List Bw) (w : World) (h : IsBB w v r) (hr : r.length ≤ 1000) (hl : (flt r).length ≤ 150000000000000) :
    Calls Try.prog 94 #[v] w fun E w' => ∃ v', E = .returned v' ∧ Own .u8 5 w.heap.size w' v' (flt r) ∧ Below w.heap.size w w' := by
  obtain ⟨ao, cap, hv, hcap, hcm⟩ := h.1.shape
  have H := hide h
  subst hv
  clear h
  go_enter Try.func94, Try.ntmps94
  go_wp2
  go_loopw [3, 11] (fun sv iv wr => ∃ k : Nat, k ≤ r.length ∧ iv = .int .i64 k ∧ sv = .int .i64 (flt (r.take k)).length ∧ w = wr) (fun _ iv _ => r.length - (intOf iv).toNat)
  case atStart => exact ⟨0, by omega, rfl, rfl, rfl⟩
  case round =>
    obtain ⟨k, hk, rfl, rfl, rfl⟩ := hrel
    by_cases hlt : k < r.length
    · obtain ⟨b, off, cq, hvx, _, _, hB, hcell⟩ := H.out.full (by omega)
      simp only [Value.slice.injEq, true_and] at hvx
      obtain ⟨rfl, rfl⟩ := hvx
      obtain ⟨a, ha⟩ : ∃ a, r[k]? = some a := ⟨r[k], by rw [List.getElem?_eq_getElem]⟩
      have e4 := hcell k a ha
      obtain ⟨av, ac, hav, _, _⟩ := (H.out.2 a (List.mem_of_getElem? ha)).shape
      rw [hav] at e4
      have hlt' : (k : Int) < r.length := by omega
      have hn := flt_next ha
      have hm := flt_le r (k + 1)
      have hn2 : (flt (r.take (k + 1))).length = (flt (r.take k)).length + a.l.length := by rw [hn, List.length_append]
      have hn3 : ((flt (r.take (k + 1))).length : Int) = ((flt (r.take k)).length : Int) + (a.l.length : Int) := by omega
      generalize hq : (flt (r.take k)).length = q at *
      have e5 : IntKind.i64.wrap ((q : Int) + (a.l.length : Int)) = (q : Int) + a.l.length := wrap_i64_small _ (by omega) (by omega)
      have e6 : ¬ (q : Int) + (a.l.length : Int) < 0 := by omega
      have hk0 : (0 : Int) ≤ (k : Int) := by omega
      clear hcell hn hq hav ha
      go_wp2
      go_roundw
      case rel => exact ⟨k + 1, by omega, by go_num, by rw [hn3], trivial⟩
      case measure => simp [intOf]; omega
    · obtain rfl : k = r.length := by omega
      rw [List.take_length]
      have hlt' : ¬ (r.length : Int) < r.length := by omega
      go_wp2_with fail
      refine (fgrow_any (flt r).length _ hl).mono ?_
      rintro E w1 ⟨v1, rfl, own1, bel1⟩
      have H1 := hide (H.out.below bel1)
      go_wp2
      go_loopw [6, 27] (fun sv iv wr => ∃ k : Nat, k ≤ r.length ∧ iv = .int .i64 k ∧ Own .u8 5 w.heap.size wr sv (flt (r.take k)) ∧ Below w.heap.size w wr) (fun _ iv _ => r.length - (intOf iv).toNat)
      case atStart => exact ⟨0, by omega, rfl, own1, bel1⟩
      case round =>
        clear own1 bel1 H1
        obtain ⟨k, hk, rfl, own, bel⟩ := hrel
        have szr := bel.size
        by_cases hlt : k < r.length
        · have H2 := H.out.below bel
          obtain ⟨b, off, cq, hvx, _, _, hB, hcell⟩ := H2.full (by omega)
          simp only [Value.slice.injEq, true_and] at hvx
          obtain ⟨rfl, rfl⟩ := hvx
          obtain ⟨a, ha⟩ : ∃ a, r[k]? = some a := ⟨r[k], by rw [List.getElem?_eq_getElem]⟩
          have e4 := hcell k a ha
          have isa := H2.2 a (List.mem_of_getElem? ha)
          have hlt' : (k : Int) < r.length := by omega
          have hn := hide (flt_next ha)
          have hm := flt_le r (k + 1)
          have hn2 : (flt (r.take (k + 1))).length = (flt (r.take k)).length + a.l.length := by rw [hn.out, List.length_append]
          have hk0 : (0 : Int) ≤ (k : Int) := by omega
          have sum : (flt (r.take k)).length + a.l.length ≤ 150000000000000 := by omega
          clear hcell ha H2 hn2 hm
          generalize flt (r.take k) = q at *
          go_wp2_with (at_builtin; refine wpList_append_is rfl (.tmp 31) (.tmp 32) 25 rfl .u8 5 w.heap.size 1 Try.underlying25 Try.info5 (by decide) _ q rfl own _ a.l rfl isa (by simp; omega) szr ?_)
          intro v2 w2 own2 bel2 _
          rw [← hn.out] at own2
          have b3 := bel.trans bel2
          clear own isa e4 bel2
          go_wp2
          go_roundw
          case rel => exact ⟨k + 1, by omega, by go_num, own2, b3⟩
          case measure => simp [intOf]; omega
        · obtain rfl : k = r.length := by omega
          rw [List.take_length] at own
          have hlt' : ¬ (r.length : Int) < r.length := by omega
          go_wp2
          go_ret
          exact ⟨_, rfl, own, bel⟩

/-- What Append answers. -/
def apd (bs r : List Int) : List Int := if r.length ≤ 131072 then bs ++ Fm.frm r else []
def ape (r : List Int) : Int := if r.length ≤ 131072 then 0 else 3

theorem conv_len (n : Nat) (h : n ≤ 140737488355328) : IntKind.u64.wrap (n : Int) = n := by
  rw [IntKind.wrap_u64]; omega

set_option maxHeartbeats 2000000 in
theorem fapp_any (vb vr : Value) (bs r : List Int) (w : World) (hb : Is .u8 w vb bs) (hr : Is .u8 w vr r) (hl : bs.length ≤ 140737488351232) (hl' : r.length ≤ 140737488351232) :
    Calls Try.prog 67 #[vb, vr] w fun E w' => ∃ v', E = .returned (.tuple #[v', .int .i64 (ape r)]) ∧ Own .u8 5 w.heap.size w' v' (apd bs r) ∧ Below w.heap.size w w' := by
  obtain ⟨ro, rc, hv, hcap, hcm⟩ := hr.shape
  subst hv
  obtain ⟨bo, bc, hv, hcap', hcm'⟩ := hb.shape
  subst hv
  have HB := hide hb
  have HR := hide hr
  clear hb hr
  by_cases hlong : r.length ≤ 131072
  · have e1 : ape r = 0 := if_pos hlong
    have e2 : apd bs r = bs ++ Fm.frm r := if_pos hlong
    rw [e1, e2]
    have hn : ¬ (131072 : Int) < (r.length : Int) := by omega
    have e3 : IntKind.u64.wrap (r.length : Int) = r.length := conv_len _ (by omega)
    have hz := Fm.sz3 hlong
    clear e1 e2
    go_enter Try.func67, Try.ntmps67
    go_wp2_with fail
    refine (app_any (.slice none 0 0) [] (r.length : Int) _ (Own.nil .u8 5 w.heap.size w).is (by simp) (by omega) (by omega)).mono ?_
    rintro E w1 ⟨v1, rfl, own1, bel1⟩
    rw [List.nil_append, Int.toNat_natCast] at own1
    obtain ⟨no, nc, hv, _, _⟩ := own1.is.shape
    subst hv
    generalize hvn : Value.slice no (Vm.enc r.length).length nc = v1 at *
    generalize hvb : Value.slice bo bs.length bc = vb at *
    obtain ⟨w2, hw2, sz2, bel2, B2⟩ := blk_step w1 #[vb, v1, .slice ro r.length rc] 25
    have row : IsBB w2 (.slice (some ⟨w1.heap.size, 0, none⟩) 3 3) [⟨vb, bs⟩, ⟨v1, Vm.enc r.length⟩, ⟨.slice ro r.length rc, r⟩] := by
      refine ⟨?_, ?_⟩
      · obtain ⟨W, hW, _, _, ho⟩ := rows_step bwc 1 bwc_len 25 w1 #[vb, v1, .slice ro r.length rc] 3 [⟨vb, bs⟩, ⟨v1, Vm.enc r.length⟩, ⟨.slice ro r.length rc, r⟩] rfl rfl (by unfold maxLen; omega)
        rw [← hw2, hW]
        exact ho.row
      · intro a ha
        simp at ha
        rcases ha with rfl | rfl | rfl
        · exact (HB.out.below bel1).below bel2
        · exact (own1.below bel2).is
        · exact (HR.out.below bel1).below bel2
    have szs := bel1.size
    have HC := hide (concat_any _ _ w2 row (by simp) (by simp [flt]; have : (Vm.enc r.length).length ≤ 3 := hz; omega))
    have b02 : Below w.heap.size w w2 := bel1.trans (bel2.mono szs)
    clear own1 row bel1 bel2 B2
    subst hvn hvb
    go_wp2_with fail
    refine HC.out.mono ?_
    rintro E w3 ⟨v3, rfl, own3, bel3⟩
    have own4 : Own .u8 5 w2.heap.size w3 v3 (bs ++ Fm.frm r) := by simpa [flt, Fm.frm] using own3
    clear HC own3
    go_wp2
    go_ret2
    exact ⟨_, rfl, own4.rebase (by omega), b02.trans (bel3.mono (by omega))⟩
  · have e1 : ape r = 3 := if_neg hlong
    have e2 : apd bs r = [] := if_neg hlong
    rw [e1, e2]
    have hn : (131072 : Int) < (r.length : Int) := by omega
    go_enter Try.func67, Try.ntmps67
    go_wp2
    go_ret2
    exact ⟨_, rfl, Own.nil _ _ _ _, Below.refl _ _⟩

end Go.Proofs.Ytkpnkknolobioaa

/- frame.Read. -/
namespace Go.Proofs.Ytkpnkknolobioaa
open Go.RowKit
set_option linter.unusedVariables false

theorem sres_step {bs : List Int} {most : Nat} {u i g : Int} (hm : most < 18446744073709551616) (h : SRes bs most u i g) :
    (∃ x : Nat, u = x ∧ i = Vm.sz x ∧ g = 0 ∧ x ≤ most ∧ Vm.enc x <+: bs) ∨ (u = 0 ∧ i = 0 ∧ g = 5 ∧ ∀ x : Nat, x ≤ most → ¬ Vm.enc x <+: bs) := by
  rcases h with ⟨hR, h1, h2, he⟩ | ⟨hu, hi, he, x, n, f, hR, hcase⟩
  · rcases hR with ⟨x, hx, hp, h3, h4, _⟩ | ⟨_, _, _, h5⟩
    · exact .inl ⟨x, h3, h4, he, by omega, hp⟩
    · simp at h5
  · refine .inr ⟨hu, hi, he, fun y hy hp => ?_⟩
    have := Vm.res_good hR (u := y) (by omega) hp
    omega

theorem rd_bad {bs : List Int} (h : ∀ x : Nat, x ≤ 131072 → ¬ Vm.enc x <+: bs) : Fm.Rd bs [] 0 5 := .inr ⟨rfl, rfl, rfl, fun s hs hp => h _ hs (Fm.frm_pre hp).1⟩

theorem rd_short {bs : List Int} {x : Nat} (h : Vm.enc x <+: bs) (hx : bs.length - Vm.sz x < x) : Fm.Rd bs [] 0 5 := .inr ⟨rfl, rfl, rfl, fun s hs hp => by
  obtain ⟨h1, h2, _⟩ := Fm.frm_pre hp
  have := Vm.pre_one bs _ _ h h1
  subst this
  omega⟩

theorem rd_good {bs : List Int} {x : Nat} (h : Vm.enc x <+: bs) (h' : x ≤ 131072) (hx : x ≤ bs.length - Vm.sz x) : Fm.Rd bs ((bs.drop (Vm.sz x)).take x) (Vm.sz x + x) 0 := by
  obtain ⟨h1, h2⟩ := Fm.frm_of h hx
  exact .inl ⟨rfl, by omega, by rw [h1], h2⟩

set_option maxHeartbeats 1000000 in
theorem fread_any (vb : Value) (bs : List Int) (w : World) (hb : Is .u8 w vb bs) (hl : bs.length ≤ 150000000000000) :
    Calls Try.prog 73 #[vb] w fun E w' => ∃ (v : Value) (r : List Int) (n : Nat) (e : Int), E = .returned (.tuple #[v, .int .i64 n, .int .i64 e]) ∧ Own .u8 5 w.heap.size w' v r ∧ Below w.heap.size w w' ∧ Hid (Fm.Rd bs r n e) := by
  obtain ⟨u, i, g, hS⟩ := sres_is bs ((131072 : Nat) : Int)
  have HS := hide (small_any vb bs _ u i g w hb hl (by omega) (by omega) hS)
  rcases sres_step (by omega) hS with ⟨x, rfl, rfl, rfl, hx, hp⟩ | ⟨rfl, rfl, rfl, hno⟩
  · have hz := Fm.sz3 hx
    have hpl : Vm.sz x ≤ bs.length := hp.length_le
    by_cases hlong : x ≤ bs.length - Vm.sz x
    · have R := hide (rd_good hp hx hlong)
      obtain ⟨vs, hsl, isl⟩ := hb.slice_lh Try.elemP Try.sizeP (Vm.sz x) (Vm.sz x + x) (by omega) (by omega)
      rw [show Vm.sz x + x - Vm.sz x = x by omega] at isl
      have hlt : ((bs.drop (Vm.sz x)).take x).length ≤ 131072 := by rw [List.length_take, List.length_drop]; omega
      have HC := hide (bclone_any vs _ w isl (by omega))
      obtain ⟨ao, cap, hv, hcap, hcm⟩ := hb.shape
      subst hv
      clear hb isl hlt hS hp
      generalize (bs.drop (Vm.sz x)).take x = r at *
      generalize Vm.sz x = m at *
      have e1 : IntKind.i64.wrap ((bs.length : Int) - (m : Int)) = (bs.length : Int) - m := wrap_i64_small _ (by omega) (by omega)
      have e2 : IntKind.i64.wrap ((m : Int) + (x : Int)) = (m : Int) + x := wrap_i64_small _ (by omega) (by omega)
      have e3 : ¬ (bs.length : Int) - m < x := by omega
      have hsl2 : ∀ wx, (Instr.slice 25 (.slice ao bs.length cap) (some (.int .i64 (m : Int))) (some (.int .i64 ((m : Int) + (x : Int)))) none).run Try.prog wx = .ok vs wx := by simpa using hsl
      clear hsl
      go_enter Try.func73, Try.ntmps73
      go_wp2_with fail
      refine HS.out.mono ?_
      rintro E w1 ⟨rfl, rfl⟩
      clear HS
      go_wp2_with fail
      refine HC.out.mono ?_
      rintro E w2 ⟨v2, rfl, own2, bel2⟩
      clear HC hsl2
      go_wp2
      go_ret3
      exact ⟨v2, r, m + x, 0, by simp, own2, bel2, R⟩
    · have R := hide (rd_short hp (by omega))
      obtain ⟨ao, cap, hv, hcap, hcm⟩ := hb.shape
      subst hv
      clear hb hS hp
      generalize Vm.sz x = m at *
      have e1 : IntKind.i64.wrap ((bs.length : Int) - (m : Int)) = (bs.length : Int) - m := wrap_i64_small _ (by omega) (by omega)
      have e3 : (bs.length : Int) - m < x := by omega
      go_enter Try.func73, Try.ntmps73
      go_wp2_with fail
      refine HS.out.mono ?_
      rintro E w1 ⟨rfl, rfl⟩
      clear HS
      go_wp2
      go_ret3
      exact ⟨_, [], 0, 5, rfl, Own.nil _ _ _ _, Below.refl _ _, R⟩
  · have R := hide (rd_bad hno)
    clear hb hS hno
    go_enter Try.func73, Try.ntmps73
    go_wp2_with fail
    refine HS.out.mono ?_
    rintro E w1 ⟨rfl, rfl⟩
    clear HS
    go_wp2
    go_ret3
    exact ⟨_, [], 0, 5, rfl, Own.nil _ _ _ _, Below.refl _ _, R⟩

end Go.Proofs.Ytkpnkknolobioaa
