/- Texts of one layer, one behind the other. -/
import Derived.Test.YtmkpaedemjiboaaGreatA3
import Derived.Deep.RegionLaw
import Derived.Deep.CutRange
/- The contracts of cmp.Or, of starts' Fork, grow, Of and Grown. -/
namespace Go.Proofs.YtmkpaedemjiboaaGreat
open Go.RowKit
set_option linter.unusedVariables false

/-- What Fork comes to: the error. -/
def frE (a : List Sm.S) (ae : Int) (b : List Sm.S) (be : Int) : Int := if Sm.chk a ae = 0 then Sm.chk b be else Sm.chk a ae

theorem frE_zero {a b : List Sm.S} {ae be : Int} (h : frE a ae b be = 0) : Sm.Ok a ae ∧ Sm.Ok b be := by
  unfold frE at h
  split at h
  · rename_i h1
    exact ⟨Sm.chk_zero.1 h1, Sm.chk_zero.1 h⟩
  · rename_i h1
    exact absurd h h1

/-- What Fork comes to. -/
def Fr (a : List Sm.S) (ae : Int) (b : List Sm.S) (be n : Int) : Prop := (frE a ae b be = 0 ∧ Sm.Fk a ae b be n) ∨ (frE a ae b be ≠ 0 ∧ n = 0)

theorem fr_one {a b : List Sm.S} {ae be n m : Int} (h : Fr a ae b be n) (k : Fr a ae b be m) : n = m := by
  rcases h with ⟨h1, h2⟩ | ⟨h1, h2⟩ <;> rcases k with ⟨k1, k2⟩ | ⟨k1, k2⟩
  · exact Sm.fk_one h2 k2
  · exact absurd h1 k1
  · exact absurd k1 h1
  · rw [h2, k2]

set_option maxHeartbeats 1000000 in
theorem grow_any (base : Nat) (v : Value) (l : List Sm.S) (e n : Int) (ao : Option Addr) (no co : Nat) (w : World) (h : OwnS base w v l) (hl : (l.length + 1) * 16 ≤ 140737488355328) (hb : base ≤ w.heap.size) :
    Calls Tryz.prog 112 #[v, cmv e n (.slice ao no co)] w fun E w' => ∃ v', E = .returned v' ∧ OwnS base w' v' (Sm.grw l e n) ∧ Below base w w' := by
  unfold cmv
  obtain ⟨w1, hw1, sz1, bel1, hB⟩ := blk_step w #[.int .i64 e, .int .i64 n, .slice ao no co] 37
  have own1 := ownS_below h bel1
  have c0 := blk_cell hB 0 rfl
  have c1 := blk_cell hB 1 rfl
  have X : Hid (∀ m, _) := hide fun m => lastE_any v l (w1.drewN m) (rowS_drewN own1.row m) (by omega)
  have HL : Hid ((l.length + [((e, n) : Sm.S)].length) * 16 ≤ 140737488355328) := hide hl
  have HB := hide hB
  clear hl h hB
  by_cases hq : e = Sm.lst l
  · have hg : Sm.grw l e n = l := by unfold Sm.grw; rw [if_pos hq]
    rw [hg]
    have hq' : (e == Sm.lst l) = true := by simpa using hq
    generalize Sm.lst l = u at *
    clear hq hg HL
    go_enter Tryz.func112, Tryz.ntmps112
    go_wp2
    go_quiet ((go_at_call 131; refine Calls.quiet_of ((X.out _).mono (by rintro E w1 ⟨rfl, rfl⟩; exact ⟨rfl, 0, rfl⟩))))
    go_wp2
    go_ret
    exact ⟨_, rfl, own1.agree fun _ _ => rfl, below_drewN (bel1.mono hb) _⟩
  · have hg : Sm.grw l e n = l ++ [(e, n)] := by unfold Sm.grw; rw [if_neg hq]
    rw [hg]
    have hq' : (e == Sm.lst l) = false := by simpa using hq
    generalize Sm.lst l = u at *
    clear hq hg
    go_enter Tryz.func112, Tryz.ntmps112
    go_wp2
    go_quiet ((go_at_call 131; refine Calls.quiet_of ((X.out _).mono (by rintro E w1 ⟨rfl, rfl⟩; exact ⟨rfl, 0, rfl⟩))))
    have own1' : OwnS base (w1.drewN nq) v l := own1.agree fun _ _ => rfl
    have szq : (w1.drewN nq).heap.size = w1.heap.size := rfl
    have d0 : (w1.drewN nq).cell? ⟨w.heap.size, 0, none⟩ = some (.int .i64 e) := c0
    have d1 : (w1.drewN nq).cell? ⟨w.heap.size, 1, none⟩ = some (.int .i64 n) := c1
    have belq : Below base w (w1.drewN nq) := below_drewN (bel1.mono hb) nq
    generalize w1.drewN nq = wq at *
    obtain ⟨w2, hw2, sz2, bel2, own2⟩ := sts_step wq #[.int .i64 e, .int .i64 n] 1 [(e, n)] rfl rfl (by simp [maxLen])
    have own3 := ownS_below own1' bel2
    rw [szq, sz1] at own2
    clear own1 own1' c0 c1 X HB
    go_wp2_with (at_builtin; refine wpList_append_sts rfl (.tmp 11) (.tmp 17) rfl base _ l rfl own3 _ [(e, n)] rfl own2.row HL.out (by omega) ?_)
    intro v2 w3 own4 bel3 _
    go_wp2
    go_ret
    exact ⟨_, rfl, own4, (belq.trans (bel2.mono (by omega))).trans bel3⟩

end Go.Proofs.YtmkpaedemjiboaaGreat

/- The contract of the chapter's lists of starts ('of'), and of the two examples that open each law ('lives'). -/
namespace Go.Proofs.YtmkpaedemjiboaaGreat
open Go.RowKit
set_option linter.unusedVariables false

/-- 'append(out, xs...)' of starts inside a region that draws its order. -/
theorem step_append_sts {ops : Array Oper} {o : Oper} {a : Act} {w : World} {K : Act → World → Prop} {Q : Exit → Act → World → Prop} {E : Prop} (hgd : o.guard = none) (s x : Operand)
    (ho : o.op = .call { callee := .builtin .append, args := #[s, x], argTypes := #[45, 45] })
    (base : Nat) (v : Value) (l : List Sm.S) (hs : a.eval s = v) (hown : OwnS base w v l) (vx : Value) (m : List Sm.S) (hx : a.eval x = vx) (his : RowS w vx m)
    (hlen : (l.length + m.length) * 16 ≤ 140737488355328) (hbase : base ≤ w.heap.size)
    (h : ∀ v' w', OwnS base w' v' (l ++ m) → Below base w w' → w.grownBy w' v.ownBlock → K (a.put o.dst v') w') :
    if Region.wanted o (yielded ops a.tmps) = true then Oper.wp Tryz.prog o a w K Q else E :=
  step_append_rows stc 2 16 stc_len (by decide) (by decide) (.agg #[.int .i64 0, .int .i64 0]) rfl hgd s x 45 ho 89 base Tryz.underlying45 Tryz.info89 v l hs hown vx m hx his (stc_one m) hlen hbase
    fun v' w' h1 h2 => h v' w' h1 ((Below.refl _ _).grown h2 hbase fun k hk => (OwnG.lt hown k hk).1) h2

/-- Numbers two by two. -/
def prs : List Int → List Sm.S
  | a :: b :: r => (a, b) :: prs r
  | _ => []

theorem prs_at : ∀ (zs : List Int) (k : Nat), 2 * k + 1 < zs.length → (prs zs)[k]? = some (zs.getD (2 * k) 0, zs.getD (2 * k + 1) 0)
  | [], _, h => by simp at h
  | [_], _, h => by simp at h
  | a :: b :: r, 0, _ => rfl
  | a :: b :: r, k + 1, h => by
    have := prs_at r k (by simp at h; omega)
    rw [prs, List.getElem?_cons_succ, this, show 2 * (k + 1) = 2 * k + 1 + 1 by omega]
    rfl

theorem prs_len : ∀ (zs : List Int), (prs zs).length = zs.length / 2
  | [] => rfl
  | [_] => by simp [prs]
  | a :: b :: r => by
    have := prs_len r
    simp [prs, this]
    omega

end Go.Proofs.YtmkpaedemjiboaaGreat

/- The contract of the document's Check of starts. -/
namespace Go.Proofs.YtmkpaedemjiboaaGreat
open Go.RowKit
set_option linter.unusedVariables false

/-- What the document's loop knows at the place k. -/
def CkI (l : List Sm.S) (en : Int) (k : Nat) : Prop := k = 0 ∨ ∃ (j : Nat) (s : Sm.S), k = j + 1 ∧ l[j]? = some s ∧ 0 < s.1 ∧ (l.map Prod.snd).headD 1 = 1 ∧ (Sm.Up en 0 0 l ↔ Sm.Up en s.1 s.2 (l.drop k))

end Go.Proofs.YtmkpaedemjiboaaGreat

/- The contracts of the document's At, Trimmed and Fork of starts. -/
namespace Go.Proofs.YtmkpaedemjiboaaGreat
open Go.RowKit
set_option linter.unusedVariables false

theorem beg_drop {l : List Sm.S} {k : Nat} {s : Sm.S} {n : Int} (h : l[k]? = some s) : Sm.beg n (l.drop k) = if s.2 ≤ n then s :: Sm.beg n (l.drop (k + 1)) else [] := by
  have hk := (List.getElem?_eq_some_iff.1 h).1
  rw [List.drop_eq_getElem_cons hk, (List.getElem?_eq_some_iff.1 h).2]
  rfl

end Go.Proofs.YtmkpaedemjiboaaGreat

/- The contracts of starts' Of and Grown. -/
namespace Go.Proofs.YtmkpaedemjiboaaGreat
open Go.RowKit
set_option linter.unusedVariables false

theorem told_len : ∀ (l : List Cm.Cv) (ep : Int), (Sm.told ep l).length ≤ l.length
  | [], _ => by simp [Sm.told]
  | c :: r, ep => by
    have := told_len r c.e
    unfold Sm.told
    split
    · simp; omega
    · simp; omega

/-- What Of comes to. -/
def ofs (l : List Cm.Cv) : List Sm.S := if (Cm.fol 0 0 0 l).1 = 0 then Sm.told 0 l else []

theorem ofs_ok {l : List Cm.Cv} (h : (Cm.fol 0 0 0 l).1 = 0) : ofs l = Sm.told 0 l := if_pos h
theorem ofs_no {l : List Cm.Cv} (h : (Cm.fol 0 0 0 l).1 ≠ 0) : ofs l = [] := if_neg h

theorem cvs_next {r : List Cw} {k : Nat} {c : Cw} (h : r[k]? = some c) : cvs (r.take (k + 1)) = cvs (r.take k) ++ [c.c] := by
  unfold cvs
  rw [List.take_add_one, h]
  simp

set_option maxRecDepth 100000 in
set_option maxHeartbeats 2000000 in
theorem of_any (vl : Value) (r : List Cw) (w : World) (h : IsC w vl r) (hf : FitC r) (hl : r.length ≤ 1000000) :
    Calls Tryz.prog 63 #[vl] w fun E w' => ∃ v, E = .returned (.tuple #[v, flv (Cm.fol 0 0 0 (cvs r))]) ∧ OwnS w.heap.size w' v (ofs (cvs r)) ∧ Below w.heap.size w w' := by
  have hl2 : r.length ≤ 140737488355328 := by omega
  obtain ⟨ao, cap, hvl, hcap, hcm⟩ := h.1.shape
  subst hvl
  obtain ⟨w1, hw1, sz1, bel1, hR⟩ := blk_step w #[.int .i64 0, .int .i64 0] 91
  have X := hide (cfol_any 0 0 _ r w1 (h.below bel1) hf hl2)
  unfold flv at X ⊢
  have HOK := hide (ofs_ok (l := cvs r))
  have HNO := hide (ofs_no (l := cvs r))
  have HZ := hide (Cm.fol_at (cvs r) 0 0 0)
  have HGD := hide (Cm.fol_good (cvs r) 0 0 0)
  obtain ⟨fl, hfl⟩ : ∃ f, Cm.fol 0 0 0 (cvs r) = f := ⟨_, rfl⟩
  rw [hfl] at X HOK HNO HZ HGD ⊢
  obtain ⟨fe, fp⟩ := fl
  simp only at X HOK HNO HZ HGD ⊢
  clear hfl
  have HI := hide h
  have HR := hide hR
  clear h hR
  go_enter Tryz.func63, Tryz.ntmps63
  go_wp2_with fail
  refine X.out.mono ?_
  rintro E w2 ⟨rfl, bel2⟩
  have s2 := bel2.size
  obtain ⟨w3, hw3, hw3', sz3, bel3, hF, c0, c1⟩ := new_two w2 91 (.int .i64 0) (.int .i64 0) (.int .i64 fe) (.int .i64 fp)
  have bel13 : Below w1.heap.size w1 w3 := bel2.trans (bel3.mono s2)
  have bel03 : Below w.heap.size w w3 := bel1.trans (bel13.mono (by omega))
  have hR3 := (bel13.block w.heap.size (by omega)).trans HR.out
  have hnq := Tryz.neqF fe fp 0 0
  have hgd := Tryz.guardF
  have I3 := hide (HI.out.below bel03)
  have HF := hide hF
  clear X HR bel2 bel3 bel1 hF HI
  by_cases hfe : fe = 0
  · have hfp : fp = 0 := HZ.out hfe
    have hb : (!((fe == 0) && (fp == 0))) = false := by simp [hfe, hfp]
    rw [hb] at hnq
    have GD := hide (HGD.out.1 hfe)
    have HO := hide (HOK.out hfe)
    subst hfe hfp
    have g0 := blk_froz HF.out 0
    have g1 := blk_froz HF.out 1
    have y0 : w3.setCell ⟨w2.heap.size, 0, none⟩ (.int .i64 0) = w3 := set_same HF.out (j := 0) rfl
    have y1 : w3.setCell ⟨w2.heap.size, 1, none⟩ (.int .i64 0) = w3 := set_same HF.out (j := 1) rfl
    clear hb HOK HNO HZ HGD hf
    by_cases hz : r.length = 0
    · have hr : r = [] := List.eq_nil_of_length_eq_zero hz
      subst hr
      obtain ⟨V, hV, bV, gV, ⟨a0, a1⟩, ⟨f0, f1⟩, ⟨z0, z1⟩⟩ := res_two hR3 (.int .i64 0) (.int .i64 0)
      have belV := below_put bel03 gV (by omega) (by omega)
      clear bV gV hR3 I3 GD hl hl2 hz
      simp only [List.length_nil]
      go_wp2
      go_loopw [5, 16] (fun lv iv wr => lv = .slice none 0 0 ∧ iv = .int .i64 0 ∧ wr = w3) (fun _ _ _ => 0)
      case atStart => exact ⟨rfl, rfl, by first | rfl | rw [y0, y1]⟩
      case round =>
        obtain ⟨rfl, rfl, rfl⟩ := hrel
        go_wp2
        refine bodyPost_ret (v := .tuple #[.slice none 0 0, .agg #[.int .i64 0, .int .i64 0]]) (by simp [results, Tryz.results63, go_sem, z0, z1]) rfl ?_
        exact ⟨_, rfl, by rw [HO.out]; exact OwnG.nil _ _ _ _ _, belV⟩
    obtain ⟨b1, o1, cp, hvl, _, _, hB, hcell⟩ := I3.out.1.full (by omega)
    have hao : ao = some ⟨b1, o1, none⟩ := by simp at hvl; exact hvl.1
    subst hao
    have HIN := hide I3.out.2
    have HC := hide hcell
    have H3 := hide hR3
    generalize hn : r.length = n at *
    have HN := hide hn
    clear hvl hcell I3 hR3 hn hw1 hw3
    go_wp2
    go_loopw [5, 16] (fun lv iv wr => ∃ k : Nat, k ≤ n ∧ iv = .int .i64 k ∧ OwnS w3.heap.size wr lv (Sm.told 0 (cvs (r.take k))) ∧ Below w3.heap.size w3 wr) (fun _ iv _ => n - (intOf iv).toNat)
    case atStart => exact ⟨0, by omega, rfl, OwnG.nil _ _ _ _ _, by first | exact Below.refl _ _ | (rw [y0, y1]; exact Below.refl _ _)⟩
    case round =>
      obtain ⟨k, hk, rfl, own, bel⟩ := hrel
      have sz := bel.size
      by_cases hlt : k < n
      · obtain ⟨c, hc⟩ : ∃ c, r[k]? = some c := at_of (by have := HN.out; omega)
        obtain ⟨e0, e1, e2⟩ := HC.out k c hc
        have d0 := (bel.cell (p := ⟨b1, o1 + k * 3, none⟩) hB).trans e0
        have d1 := (bel.cell (p := ⟨b1, o1 + k * 3 + 1, none⟩) hB).trans e1
        have d2 := (bel.cell (p := ⟨b1, o1 + k * 3 + 2, none⟩) hB).trans e2
        obtain ⟨i1, _, _⟩ := HIN.out c (List.mem_of_getElem? hc)
        have HCD := hide (cvs_next hc)
        have hlt' : (k : Int) < n := by omega
        obtain ⟨ac, cc, hcv, _, _⟩ := i1.shape
        rw [hcv] at d2
        obtain ⟨V, hV, hV2, szV, belV, bC, q0, q1, q2⟩ := new_step wr 37 (.int .i64 0) (.int .i64 0) (.slice none 0 0) (.int .i64 c.e) (.int .i64 c.n) (.slice ac c.l.length cc)
        have ownV := ownS_below own belV
        have hln : (Sm.told 0 (cvs (r.take k))).length ≤ k := Nat.le_trans (told_len _ _) (by unfold cvs; rw [List.length_map, List.length_take]; omega)
        have HL : Hid (((Sm.told 0 (cvs (r.take k))).length + 1) * 16 ≤ 140737488355328) := hide (by omega)
        have HG : Hid (Sm.grw (Sm.told 0 (cvs (r.take k))) c.e c.n = Sm.told 0 (cvs (r.take (k + 1)))) := hide (by rw [HCD.out, Sm.told_grw]; rfl)
        have HB : Hid (w3.heap.size ≤ V.heap.size) := hide (by omega)
        generalize Sm.told 0 (cvs (r.take k)) = u at *
        clear e0 e1 e2 hc i1 hcv bC own hln HCD
        go_wp2_with fail
        refine (grow_any w3.heap.size _ u c.e c.n ac c.l.length cc V ownV HL.out HB.out).mono ?_
        rintro E w4 ⟨v4, rfl, own4, bel4⟩
        rw [HG.out] at own4
        have belA : Below w3.heap.size w3 w4 := (bel.trans (belV.mono (by omega))).trans bel4
        clear HG HL ownV bel belV bel4 hV hV2 q0 q1 q2 d0 d1 d2
        go_wp2
        go_roundw
        case rel => exact ⟨k + 1, by omega, by go_num, own4, belA⟩
        case measure => simp [intOf]; omega
      · have hlt' : ¬ (k : Int) < n := by omega
        have hrk : r.take k = r := List.take_of_length_le (by have := HN.out; omega)
        rw [hrk] at own
        have hRX := (bel.block w.heap.size (by omega)).trans H3.out
        obtain ⟨V, hV, bV, gV, ⟨a0, a1⟩, ⟨f0, f1⟩, ⟨z0, z1⟩⟩ := res_two hRX (.int .i64 0) (.int .i64 0)
        have belV := below_put (bel03.trans (bel.mono (by omega))) gV (by omega) (by omega)
        have ownA := own.agree (w' := V) fun b hb => gV.block b (OwnG.lt own b hb).2 (by have := OwnG.lt own b hb; simp; omega)
        have ownV := ownS_rebase (base' := w.heap.size) ownA (by omega)
        rw [← HO.out] at ownV
        have HV := hide ownV
        clear hRX bV gV bel own ownV ownA hrk
        go_wp2
        refine bodyPost_ret (v := .tuple #[_, .agg #[.int .i64 0, .int .i64 0]]) (by simp [results, Tryz.results63, go_sem, z0, z1]; rfl) rfl ?_
        exact ⟨_, rfl, HV.out, belV⟩
  · have hb : (!((fe == 0) && (fp == 0))) = true := by simp [hfe]
    rw [hb] at hnq
    have HO := hide (HNO.out hfe)
    obtain ⟨V, hV, bV, gV, ⟨a0, a1⟩, ⟨f0, f1⟩, ⟨z0, z1⟩⟩ := res_two hR3 (.int .i64 fe) (.int .i64 fp)
    have belV := below_put bel03 gV (by omega) (by omega)
    clear hb HOK HNO HZ HGD bV gV hR3 hfe I3
    go_wp2
    go_region
    go_wp2
    refine bodyPost_ret (v := .tuple #[.slice none 0 0, .agg #[.int .i64 fe, .int .i64 fp]]) (by simp [results, Tryz.results63, go_sem, z0, z1]) rfl ?_
    exact ⟨_, rfl, by rw [HO.out]; exact OwnG.nil _ _ _ _ _, belV.drew⟩

end Go.Proofs.YtmkpaedemjiboaaGreat

/- The contract of starts' Grown. -/
namespace Go.Proofs.YtmkpaedemjiboaaGreat
open Go.RowKit
set_option linter.unusedVariables false

/-- What Grown comes to: the error, the starts. -/
def grE (l : List Sm.S) (en e n : Int) (o : List Bm.Ov) : Int := if Sm.chk l en = 0 then (Cm.fol (Sm.lst l) en 0 [⟨e, n, o⟩]).1 else Sm.chk l en
def grL (l : List Sm.S) (en e n : Int) (o : List Bm.Ov) : List Sm.S := if grE l en e n o = 0 then Sm.grw l e n else []

theorem IsC.one {e n : Int} {v : Value} {o : List Bm.Ov} {w : World} {g : Nat} {e' : TypeId} {base : Nat} (h : OwnR e' base w (.slice (some ⟨g, 0, none⟩) 1 1) [⟨e, n, v, o⟩]) (hv : IsO w v o) (he : In64 e) (hn : In64 n) : IsC w (.slice (some ⟨g, 0, none⟩) 1 1) [⟨e, n, v, o⟩] :=
  ⟨h.row, fun c hc => by rw [List.mem_singleton.1 hc]; exact ⟨hv, he, hn⟩⟩

theorem FitC.one {e n : Int} {v : Value} {o : List Bm.Ov} (hf : FitO o) (hl : o.length * 40 ≤ 140737488351232) : FitC [⟨e, n, v, o⟩] := fun c hc => by rw [List.mem_singleton.1 hc]; exact ⟨hf, hl⟩

theorem one_row {w : World} {a : Nat} {e n : Int} {v : Value} {o : List Bm.Ov} {t : TypeId} (h : w.heap[a]? = some (.cells #[.int .i64 e, .int .i64 n, v] t (0, 0))) : RowC w (.slice (some ⟨a, 0, none⟩) 1 1) [⟨e, n, v, o⟩] := by
  refine .inr ⟨⟨a, 0, none⟩, 1, rfl, by simp, by simp [maxLen], fun j u hj => ?_⟩
  rw [add_at]
  simp only [ccells, ccell, List.append_nil] at hj
  match j, hj with
  | 0, hj => simp at hj; subst hj; exact blk_cell h 0 rfl
  | 1, hj => simp at hj; subst hj; exact blk_cell h 1 rfl
  | 2, hj => simp at hj; subst hj; exact blk_cell h 2 rfl
  | k + 3, hj => simp at hj

end Go.Proofs.YtmkpaedemjiboaaGreat

/- The contracts of the document's told, Of and Grown of starts. -/
namespace Go.Proofs.YtmkpaedemjiboaaGreat
open Go.RowKit
set_option linter.unusedVariables false

theorem lst_prev {r : List Cw} {j : Nat} {p : Cw} (h : r[j]? = some p) : Sm.lst (Sm.told 0 (cvs (r.take (j + 1)))) = p.e := by
  rw [Sm.lst_told, cvs_next h]
  exact (Cm.last_snoc _ p.c 0 0).1

theorem told_add {r : List Cw} {k : Nat} {c : Cw} (hc : r[k]? = some c) (h : c.e ≠ Sm.lst (Sm.told 0 (cvs (r.take k)))) : Sm.told 0 (cvs (r.take k)) ++ [(c.e, c.n)] = Sm.told 0 (cvs (r.take (k + 1))) := by
  rw [cvs_next hc, Sm.told_grw]
  exact (if_neg h).symm

theorem told_same {r : List Cw} {k : Nat} {c : Cw} (hc : r[k]? = some c) (h : c.e = Sm.lst (Sm.told 0 (cvs (r.take k)))) : Sm.told 0 (cvs (r.take k)) = Sm.told 0 (cvs (r.take (k + 1))) := by
  rw [cvs_next hc, Sm.told_grw]
  exact (if_pos h).symm

set_option maxRecDepth 100000 in
set_option maxHeartbeats 4000000 in
theorem toldR_any (vl : Value) (r : List Cw) (w : World) (h : IsC w vl r) (hl : r.length ≤ 1000000) (hg : Cm.Good 0 0 (cvs r)) :
    Calls Tryz.prog 129 #[vl] w fun E w' => ∃ v, E = .returned v ∧ OwnS w.heap.size w' v (Sm.told 0 (cvs r)) ∧ Below w.heap.size w w' := by
  by_cases hz : r.length = 0
  · have hr : r = [] := List.eq_nil_of_length_eq_zero hz
    subst hr
    obtain ⟨ao, cap, rfl, _, _⟩ := h.1.shape
    simp only [List.length_nil]
    clear h hl hg hz
    go_enter Tryz.func129, Tryz.ntmps129
    go_wp2
    refine wp_loop_rounds 1 ?_
    rw [rounds_succ]
    go_wp2
    go_ret
    exact ⟨_, rfl, OwnG.nil _ _ _ _ _, Below.refl _ _⟩
  obtain ⟨b1, o1, cp, rfl, _, _, hB, hcell⟩ := h.1.full (by omega)
  have HC := hide hcell
  have HGO : Hid (∀ (k : Nat) (c : Cw), r[k]? = some c → 1 ≤ c.e) := hide fun k c hc => by
    have hcc : (cvs r)[k]? = some c.c := by unfold cvs; rw [List.getElem?_map, hc]; rfl
    have := (Cm.good_at (cvs r) 0 0 k c.c hg hcc).1
    exact (Cm.chk_zero this).1
  generalize hn : r.length = n at *
  have HN := hide hn
  clear h hcell hg hn
  go_enter Tryz.func129, Tryz.ntmps129
  go_wp2
  go_loopw [3, 4] (fun ov iv wr => ∃ k : Nat, k ≤ n ∧ iv = .int .i64 k ∧ OwnS w.heap.size wr ov (Sm.told 0 (cvs (r.take k))) ∧ Below w.heap.size w wr) (fun _ iv _ => n - (intOf iv).toNat)
  case atStart => exact ⟨0, by omega, rfl, OwnG.nil _ _ _ _ _, Below.refl _ _⟩
  case round =>
    obtain ⟨k, hk, rfl, own, bel⟩ := hrel
    have sz := bel.size
    by_cases hlt : k < n
    · obtain ⟨c, hc⟩ : ∃ c, r[k]? = some c := at_of (by have := HN.out; omega)
      obtain ⟨e0, e1, e2⟩ := HC.out k c hc
      have d0 := (bel.cell (p := ⟨b1, o1 + k * 3, none⟩) hB).trans e0
      have d1 := (bel.cell (p := ⟨b1, o1 + k * 3 + 1, none⟩) hB).trans e1
      have hlt' : (k : Int) < n := by omega
      have hce := HGO.out k c hc
      have hln : (Sm.told 0 (cvs (r.take k))).length ≤ k := Nat.le_trans (told_len _ _) (by unfold cvs; rw [List.length_map, List.length_take]; omega)
      have HLL : Hid (((Sm.told 0 (cvs (r.take k))).length + [((c.e, c.n) : Sm.S)].length) * 16 ≤ 140737488355328) := hide (by rw [List.length_singleton]; omega)
      have HADD := hide (told_add hc)
      have HSAME := hide (told_same hc)
      have KEY : Hid ((k = 0 ∧ Sm.lst (Sm.told 0 (cvs (r.take k))) = 0) ∨ ∃ (j : Nat) (p : Cw), k = j + 1 ∧ r[j]? = some p ∧ Sm.lst (Sm.told 0 (cvs (r.take k))) = p.e) := hide (by
        rcases Nat.eq_zero_or_pos k with h0 | h0
        · subst h0; exact .inl ⟨rfl, rfl⟩
        · obtain ⟨j, rfl⟩ : ∃ j, k = j + 1 := ⟨k - 1, by omega⟩
          obtain ⟨p, hp⟩ : ∃ p, r[j]? = some p := at_of (by have := HN.out; omega)
          exact .inr ⟨j, p, rfl, hp, lst_prev hp⟩)
      generalize hu : Sm.told 0 (cvs (r.take k)) = u at *
      clear e0 e1 e2 hc hln hu
      rcases KEY.out with ⟨h0, hls⟩ | ⟨j, p, hkj, hp, hls⟩
      · have k0 : ((k : Int) == 0) = true := by simp [h0]
        have HT := hide (HADD.out (by rw [hls]; omega))
        clear KEY HADD HSAME h0 hls
        go_wp2
        go_big_quiet (fail)
        have own' : OwnS w.heap.size (wr.drewN nq) _ u := own.agree fun _ _ => rfl
        have bel' : Below w.heap.size w (wr.drewN nq) := below_drewN bel nq
        have szq : (wr.drewN nq).heap.size = wr.heap.size := rfl
        have f0 : (wr.drewN nq).cell? ⟨b1, o1 + k * 3, none⟩ = some (.int .i64 c.e) := d0
        have f1 : (wr.drewN nq).cell? ⟨b1, o1 + k * 3 + 1, none⟩ = some (.int .i64 c.n) := d1
        generalize wr.drewN nq = wq at *
        obtain ⟨w1, hw1, sz1, bel1, own1⟩ := sts_step wq #[.int .i64 c.e, .int .i64 c.n] 1 [(c.e, c.n)] rfl rfl (by simp [maxLen])
        have i1 : Hid (∀ q, OwnS w.heap.size (w1.drewN q) _ u) := hide fun q => (ownS_below own' bel1).agree fun _ _ => rfl
        rw [szq] at own1
        have i2 : Hid (∀ q, RowS (w1.drewN q) (.slice (some ⟨wr.heap.size, 0, none⟩) 1 1) [(c.e, c.n)]) := hide fun q => rowS_drewN own1.row q
        have HB : Hid (∀ q, w.heap.size ≤ (w1.drewN q).heap.size) := hide fun q => by show _ ≤ w1.heap.size; omega
        have belA : Hid (∀ q, Below w.heap.size w (w1.drewN q)) := hide fun q => below_drewN (bel'.trans (bel1.mono (by omega))) q
        clear own own' own1 bel1 bel bel' d0 d1
        go_wp2
        go_region_law (refine step_append_sts rfl (.tmp 27) (.tmp 39) rfl w.heap.size _ u (by simp [Act.eval]) (i1.out 1) _ [(c.e, c.n)] (by simp [Act.eval]) (i2.out 1) HLL.out (HB.out 1) ?_; intro v2 w2 own2 bel2 _)
        all_goals
          rw [HT.out] at own2
          have bel3 := (belA.out 1).trans bel2
          clear HT HLL i1 i2 HB belA bel2
          go_wp2
          go_roundw
          case rel => exact ⟨k + 1, by omega, by go_num, own2, bel3⟩
          case measure => simp [intOf]; omega
      · have k0 : ((k : Int) == 0) = false := by simp; omega
        have hsub : (k : Int) - 1 = (j : Int) := by omega
        have hjn : (j : Int) < n := by omega
        obtain ⟨p0, _, _⟩ := HC.out j p hp
        have dp := (bel.cell (p := ⟨b1, o1 + j * 3, none⟩) hB).trans p0
        by_cases hcp : c.e = p.e
        · have hne : (c.e != p.e) = false := by simpa using hcp
          have HT := hide (HSAME.out (by rw [hls]; exact hcp))
          clear KEY HADD HSAME hls hkj hp p0 hcp
          go_wp2
          go_big_quiet (fail)
          have own' := own.agree (w' := wr.drewN nq) fun _ _ => rfl
          rw [HT.out] at own'
          have bel' : Below w.heap.size w (wr.drewN nq) := below_drewN bel nq
          clear HT own bel d0 d1 dp
          go_wp2
          go_roundw
          case rel => exact ⟨k + 1, by omega, by go_num, own', bel'⟩
          case measure => simp [intOf]; omega
        · have hne : (c.e != p.e) = true := by simpa using hcp
          have HT := hide (HADD.out (by rw [hls]; exact hcp))
          clear KEY HADD HSAME hls hkj hp p0 hcp
          go_wp2
          go_big_quiet (fail)
          have own' : OwnS w.heap.size (wr.drewN nq) _ u := own.agree fun _ _ => rfl
          have bel' : Below w.heap.size w (wr.drewN nq) := below_drewN bel nq
          have szq : (wr.drewN nq).heap.size = wr.heap.size := rfl
          have f0 : (wr.drewN nq).cell? ⟨b1, o1 + k * 3, none⟩ = some (.int .i64 c.e) := d0
          have f1 : (wr.drewN nq).cell? ⟨b1, o1 + k * 3 + 1, none⟩ = some (.int .i64 c.n) := d1
          generalize wr.drewN nq = wq at *
          obtain ⟨w1, hw1, sz1, bel1, own1⟩ := sts_step wq #[.int .i64 c.e, .int .i64 c.n] 1 [(c.e, c.n)] rfl rfl (by simp [maxLen])
          have i1 : Hid (∀ q, OwnS w.heap.size (w1.drewN q) _ u) := hide fun q => (ownS_below own' bel1).agree fun _ _ => rfl
          rw [szq] at own1
          have i2 : Hid (∀ q, RowS (w1.drewN q) (.slice (some ⟨wr.heap.size, 0, none⟩) 1 1) [(c.e, c.n)]) := hide fun q => rowS_drewN own1.row q
          have HB : Hid (∀ q, w.heap.size ≤ (w1.drewN q).heap.size) := hide fun q => by show _ ≤ w1.heap.size; omega
          have belA : Hid (∀ q, Below w.heap.size w (w1.drewN q)) := hide fun q => below_drewN (bel'.trans (bel1.mono (by omega))) q
          clear own own' own1 bel1 bel bel' d0 d1 dp
          go_wp2
          go_region_law (refine step_append_sts rfl (.tmp 27) (.tmp 39) rfl w.heap.size _ u (by simp [Act.eval]) (i1.out 1) _ [(c.e, c.n)] (by simp [Act.eval]) (i2.out 1) HLL.out (HB.out 1) ?_; intro v2 w2 own2 bel2 _)
          all_goals
            rw [HT.out] at own2
            have bel3 := (belA.out 1).trans bel2
            clear HT HLL i1 i2 HB belA bel2
            go_wp2
            go_roundw
            case rel => exact ⟨k + 1, by omega, by go_num, own2, bel3⟩
            case measure => simp [intOf]; omega
    · have hlt' : ¬ (k : Int) < n := by omega
      have hrk : r.take k = r := List.take_of_length_le (by have := HN.out; omega)
      rw [hrk] at own
      clear hrk
      go_wp2
      go_ret
      exact ⟨_, rfl, own, bel⟩

set_option maxRecDepth 100000 in
set_option maxHeartbeats 2000000 in
theorem ofR_any (vl : Value) (r : List Cw) (w : World) (h : IsC w vl r) (hf : FitC r) (hl : r.length ≤ 1000000) :
    Calls Tryz.prog 105 #[vl] w fun E w' => ∃ v, E = .returned (.tuple #[v, flv (Cm.fol 0 0 0 (cvs r))]) ∧ OwnS w.heap.size w' v (ofs (cvs r)) ∧ Below w.heap.size w w' := by
  have hl2 : r.length ≤ 140737488355328 := by omega
  obtain ⟨ao, cap, hvl, hcap, hcm⟩ := h.1.shape
  subst hvl
  obtain ⟨w1, hw1, sz1, bel1, hR⟩ := blk_step w #[.int .i64 0, .int .i64 0] 91
  have X := hide (cfolR_any 0 0 _ r w1 (h.below bel1) hf hl2)
  unfold flv at X ⊢
  have HOK := hide (ofs_ok (l := cvs r))
  have HNO := hide (ofs_no (l := cvs r))
  have HZ := hide (Cm.fol_at (cvs r) 0 0 0)
  have HGD := hide (Cm.fol_good (cvs r) 0 0 0)
  obtain ⟨fl, hfl⟩ : ∃ f, Cm.fol 0 0 0 (cvs r) = f := ⟨_, rfl⟩
  rw [hfl] at X HOK HNO HZ HGD ⊢
  obtain ⟨fe, fp⟩ := fl
  simp only at X HOK HNO HZ HGD ⊢
  clear hfl
  have HI := hide h
  have HR := hide hR
  clear h hR
  go_enter Tryz.func105, Tryz.ntmps105
  go_wp2_with fail
  refine X.out.mono ?_
  rintro E w2 ⟨rfl, bel2⟩
  have s2 := bel2.size
  obtain ⟨w3, hw3, hw3', sz3, bel3, hF, c0, c1⟩ := new_two w2 91 (.int .i64 0) (.int .i64 0) (.int .i64 fe) (.int .i64 fp)
  have bel13 : Below w1.heap.size w1 w3 := bel2.trans (bel3.mono s2)
  have bel03 : Below w.heap.size w w3 := bel1.trans (bel13.mono (by omega))
  have hR3 := (bel13.block w.heap.size (by omega)).trans HR.out
  have hnq := Tryz.neqF fe fp 0 0
  have hgd := Tryz.guardF
  have I3 := hide (HI.out.below bel03)
  have HF := hide hF
  clear X HR bel2 bel3 bel1 hF HI
  by_cases hfe : fe = 0
  · have hfp : fp = 0 := HZ.out hfe
    have hb : (!((fe == 0) && (fp == 0))) = false := by simp [hfe, hfp]
    rw [hb] at hnq
    have HO := hide (HOK.out hfe)
    have TO := hide (toldR_any _ r w3.drew (I3.out.below ((Below.refl _ _).drew)) hl (HGD.out.1 hfe))
    have H3 := hide hR3
    clear hb HOK HNO HZ HGD hf hR3 hfe hfp
    go_wp2_with fail
    go_region_held3 (fun w' => w'.cell? ⟨w2.heap.size, 0, none⟩ = some (.int .i64 fe) ∧ w'.cell? ⟨w2.heap.size, 1, none⟩ = some (.int .i64 fp)) (first | exact ⟨c0, c1⟩ | exact ⟨d0, d1⟩ | exact ⟨g0, g1⟩ | go_keep)
      (first
      | (go_at_call 129; refine TO.out.mono ?_; rintro E w4 ⟨v4, rfl, own4', bel4'⟩; have bel4 : Below w3.heap.size w3 w4 := ((Below.refl _ _).drew).trans bel4'; have own4 : OwnS w3.heap.size w4 v4 (Sm.told 0 (cvs r)) := own4'; have s4 := bel4.size; have hF4 := (bel4.block w2.heap.size (by omega)).trans HF.out; have d0 := blk_cell hF4 0 rfl; have d1 := blk_cell hF4 1 rfl; have hR4 := (bel4.block w.heap.size (by omega)).trans H3.out; obtain ⟨V, hV, bV, gV, ⟨a0, a1⟩, ⟨f0, f1⟩, ⟨z0, z1⟩⟩ := res_two hR4 (.int .i64 fe) (.int .i64 fp); have belV := below_put (bel03.trans (bel4.mono (by omega))) gV (by omega) (by omega); have ownA := own4.agree (w' := V) fun b hb => gV.block b (OwnG.lt own4 b hb).2 (by have := OwnG.lt own4 b hb; simp; omega); have ownV := ownS_rebase (base' := w.heap.size) ownA (by omega); have hFV := (gV.block w2.heap.size (by omega) (fun e => by have e' := Option.some.inj e; omega)).trans hF4; have g0 := blk_cell hFV 0 rfl; have g1 := blk_cell hFV 1 rfl; have HV := hide ownV; clear own4' bel4' hF4 hR4 bV gV ownA ownV hFV own4))
    all_goals
      go_wp2
      refine bodyPost_ret (v := .tuple #[v4, .agg #[.int .i64 fe, .int .i64 fp]]) (by simp [results, Tryz.results105, go_sem, z0, z1]) rfl ?_
      exact ⟨_, rfl, by rw [HO.out]; exact HV.out, belV⟩
  · have hb : (!((fe == 0) && (fp == 0))) = true := by simp [hfe]
    rw [hb] at hnq
    have HO := hide (HNO.out hfe)
    obtain ⟨V, hV, bV, gV, ⟨a0, a1⟩, ⟨f0, f1⟩, ⟨z0, z1⟩⟩ := res_two hR3 (.int .i64 fe) (.int .i64 fp)
    have belV := below_put bel03 gV (by omega) (by omega)
    clear hb HOK HNO HZ HGD bV gV hR3 hfe I3
    go_wp2
    go_region
    go_wp2
    refine bodyPost_ret (v := .tuple #[.slice none 0 0, .agg #[.int .i64 fe, .int .i64 fp]]) (by simp [results, Tryz.results105, go_sem, z0, z1]) rfl ?_
    exact ⟨_, rfl, by rw [HO.out]; exact OwnG.nil _ _ _ _ _, belV.drew⟩

end Go.Proofs.YtmkpaedemjiboaaGreat
