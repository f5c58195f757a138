/- Texts of one layer, one behind the other. -/
import Derived.Test.YtabfihicdphjeaaG9
import Derived.Test.YtabfihicdphjeaaGJ
import Derived.Test.YtabfihicdphjeaaGE
/- The contracts of cmp.Or, of starts' Fork, grow, Of and Grown. -/
namespace Go.Proofs.Ytabfihicdphjeaa
open Go.RowKit
set_option linter.unusedVariables false

set_option maxHeartbeats 400000 in
theorem or_any (x y : Int) (g : Nat) (w : World) (h0 : w.cell? ⟨g, 0, none⟩ = some (.int .i64 x)) (h1 : w.cell? ⟨g, 1, none⟩ = some (.int .i64 y)) :
    Calls Try.prog 52 #[.slice (some ⟨g, 0, none⟩) 2 2] w fun E w' => E = .returned (.int .i64 (if x = 0 then y else x)) ∧ w' = w := by
  obtain ⟨z, hz⟩ : ∃ z, (if x = 0 then y else x) = z := ⟨_, rfl⟩
  rw [hz]
  have HZ := hide hz
  clear hz
  go_enter Try.func52, Try.ntmps52
  go_wp2
  go_loopw [8] (fun iv wr => ∃ k : Nat, k ≤ 2 ∧ iv = .int .i64 k ∧ Hid ((1 ≤ k → x = 0) ∧ (2 ≤ k → y = 0)) ∧ wr = w) (fun iv _ => 2 - (intOf iv).toNat)
  case atStart => exact ⟨0, by omega, rfl, hide ⟨fun h => by omega, fun h => by omega⟩, rfl⟩
  case round =>
    obtain ⟨k, hk, rfl, HT, rfl⟩ := hrel
    rcases (by omega : k = 0 ∨ k = 1 ∨ k = 2) with rfl | rfl | rfl
    · by_cases hx : x = 0
      · subst hx
        go_wp2
        go_roundw
        case rel => exact ⟨1, by omega, rfl, hide ⟨fun _ => by trivial, fun h => by omega⟩, trivial⟩
        case measure => simp [intOf]
      · have hx' : (x != 0) = true := by simpa using hx
        obtain rfl : x = z := by rw [← HZ.out, if_neg hx]
        go_wp2
        go_ret
        exact ⟨rfl, rfl⟩
    · obtain rfl := HT.out.1 (by omega)
      obtain rfl : y = z := by rw [← HZ.out, if_pos rfl]
      by_cases hy : y = 0
      · subst hy
        go_wp2
        go_roundw
        case rel => exact ⟨2, by omega, rfl, hide ⟨fun _ => by trivial, fun _ => by trivial⟩, by trivial⟩
        case measure => simp [intOf]
      · have hy' : (y != 0) = true := by simpa using hy
        go_wp2
        go_ret
        exact ⟨rfl, rfl⟩
    · obtain rfl := HT.out.1 (by omega)
      obtain rfl := HT.out.2 (by omega)
      obtain rfl : 0 = z := by rw [← HZ.out, if_pos rfl]
      go_wp2
      go_ret
      exact ⟨rfl, rfl⟩

/-- What Fork comes to: the error. -/
def frE (a : List Sm.S) (ae : Int) (b : List Sm.S) (be : Int) : Int := if Sm.chk a ae = 0 then Sm.chk b be else Sm.chk a ae

theorem frE_zero {a b : List Sm.S} {ae be : Int} (h : frE a ae b be = 0) : Sm.Ok a ae ∧ Sm.Ok b be := by
  unfold frE at h
  split at h
  · rename_i h1
    exact ⟨Sm.chk_zero.1 h1, Sm.chk_zero.1 h⟩
  · rename_i h1
    exact absurd h h1

/-- What Fork comes to. -/
def Fr (a : List Sm.S) (ae : Int) (b : List Sm.S) (be n : Int) : Prop := (frE a ae b be = 0 ∧ Sm.Fk a ae b be n) ∨ (frE a ae b be ≠ 0 ∧ n = 0)

theorem fr_one {a b : List Sm.S} {ae be n m : Int} (h : Fr a ae b be n) (k : Fr a ae b be m) : n = m := by
  rcases h with ⟨h1, h2⟩ | ⟨h1, h2⟩ <;> rcases k with ⟨k1, k2⟩ | ⟨k1, k2⟩
  · exact Sm.fk_one h2 k2
  · exact absurd h1 k1
  · exact absurd k1 h1
  · rw [h2, k2]

set_option maxHeartbeats 1000000 in
theorem sfork_any (va vb : Value) (a b : List Sm.S) (ae be : Int) (w : World) (ha : RowS w va a) (hb : RowS w vb b) (hla : a.length ≤ 140737488355328) (hlb : b.length ≤ 140737488355328) :
    Calls Try.prog 28 #[va, .int .i64 ae, vb, .int .i64 be] w fun E w' => ∃ n, E = .returned (.tuple #[.int .i64 n, .int .i64 (frE a ae b be)]) ∧ Fr a ae b be n ∧ Below w.heap.size w w' := by
  have X := hide (scheck_any va a ae w ha hla)
  have Y : Hid (∀ w1, Below w.heap.size w w1 → _) := hide fun w1 b1 => scheck_any vb b be w1 (hb.below b1) hlb
  have Z : Hid (∀ w1, Below w.heap.size w w1 → frE a ae b be = 0 → _) := hide fun w1 b1 h0 => fork_any va vb a b ae be w1 (ha.below b1) (hb.below b1) hla hlb (frE_zero h0).1 (frE_zero h0).2
  obtain ⟨x, hx⟩ : ∃ x, Sm.chk a ae = x := ⟨_, rfl⟩
  obtain ⟨y, hy⟩ : ∃ y, Sm.chk b be = y := ⟨_, rfl⟩
  have he : frE a ae b be = if x = 0 then y else x := by unfold frE; rw [hx, hy]
  rw [hx] at X
  rw [hy] at Y
  clear ha hb hx hy hla hlb
  have FR : Hid (∀ n, (frE a ae b be = 0 → Sm.Fk a ae b be n) → (frE a ae b be ≠ 0 → n = 0) → Fr a ae b be n) := hide fun n h1 h2 => by
    by_cases h : frE a ae b be = 0
    · exact .inl ⟨h, h1 h⟩
    · exact .inr ⟨h, h2 h⟩
  rw [he] at Z FR ⊢
  obtain ⟨z, hz⟩ : ∃ z, (if x = 0 then y else x) = z := ⟨_, rfl⟩
  rw [hz] at Z FR ⊢
  have HZ := hide hz
  clear hz he
  go_enter Try.func28, Try.ntmps28
  go_wp2_with fail
  refine X.out.mono ?_
  rintro E w1 ⟨rfl, bel1⟩
  go_wp2_with fail
  refine (Y.out _ bel1).mono ?_
  rintro E w2 ⟨rfl, bel2⟩
  have s1 := bel1.size
  have s2 := bel2.size
  obtain ⟨w3, hw3, sz3, bel3, hB⟩ := blk_step w2 #[.int .i64 x, .int .i64 y] 27
  have c0 := blk_cell hB 0 rfl
  have c1 := blk_cell hB 1 rfl
  have belA : Below w.heap.size w w3 := (bel1.trans (bel2.mono s1)).trans (bel3.mono (by omega))
  clear hB bel1 bel2 bel3 s1 s2
  go_wp2_with fail
  refine (or_any x y _ w3 c0 c1).mono ?_
  rintro E w4 ⟨rfl, rfl⟩
  rw [HZ.out]
  clear HZ c0 c1
  by_cases h0 : z = 0
  · subst h0
    go_wp2_with fail
    refine (Z.out _ belA (by trivial)).mono ?_
    rintro E w5 ⟨n, rfl, hfk, m, rfl⟩
    have HF := hide hfk
    clear hfk
    go_wp2
    go_ret2
    exact ⟨_, rfl, FR.out _ (fun _ => HF.out) (fun h => absurd rfl h), below_drewN belA _⟩
  · have hz : (z != 0) = true := by simpa using h0
    have F0 := hide (FR.out 0 (fun h => absurd h h0) (fun _ => rfl))
    clear h0 FR
    go_wp2
    go_ret2
    exact ⟨_, rfl, F0.out, belA⟩

set_option maxHeartbeats 1000000 in
theorem grow_any (base : Nat) (v : Value) (l : List Sm.S) (e n : Int) (ao : Option Addr) (no co : Nat) (w : World) (h : OwnS base w v l) (hl : (l.length + 1) * 16 ≤ 140737488355328) (hb : base ≤ w.heap.size) :
    Calls Try.prog 51 #[v, cmv e n (.slice ao no co)] w fun E w' => ∃ v', E = .returned v' ∧ OwnS base w' v' (Sm.grw l e n) ∧ Below base w w' := by
  unfold cmv
  obtain ⟨w1, hw1, sz1, bel1, hB⟩ := blk_step w #[.int .i64 e, .int .i64 n, .slice ao no co] 46
  have own1 := ownS_below h bel1
  have c0 := blk_cell hB 0 rfl
  have c1 := blk_cell hB 1 rfl
  have X : Hid (∀ m, _) := hide fun m => lastE_any v l (w1.drewN m) (rowS_drewN own1.row m) (by omega)
  have HL : Hid ((l.length + [((e, n) : Sm.S)].length) * 16 ≤ 140737488355328) := hide hl
  have HB := hide hB
  clear hl h hB
  by_cases hq : e = Sm.lst l
  · have hg : Sm.grw l e n = l := by unfold Sm.grw; rw [if_pos hq]
    rw [hg]
    have hq' : (e == Sm.lst l) = true := by simpa using hq
    generalize Sm.lst l = u at *
    clear hq hg HL
    go_enter Try.func51, Try.ntmps51
    go_wp2
    go_quiet ((go_at_call 76; refine Calls.quiet_of ((X.out _).mono (by rintro E w1 ⟨rfl, rfl⟩; exact ⟨rfl, 0, rfl⟩))))
    go_wp2
    go_ret
    exact ⟨_, rfl, own1.agree fun _ _ => rfl, below_drewN (bel1.mono hb) _⟩
  · have hg : Sm.grw l e n = l ++ [(e, n)] := by unfold Sm.grw; rw [if_neg hq]
    rw [hg]
    have hq' : (e == Sm.lst l) = false := by simpa using hq
    generalize Sm.lst l = u at *
    clear hq hg
    go_enter Try.func51, Try.ntmps51
    go_wp2
    go_quiet ((go_at_call 76; refine Calls.quiet_of ((X.out _).mono (by rintro E w1 ⟨rfl, rfl⟩; exact ⟨rfl, 0, rfl⟩))))
    have own1' : OwnS base (w1.drewN nq) v l := own1.agree fun _ _ => rfl
    have szq : (w1.drewN nq).heap.size = w1.heap.size := rfl
    have d0 : (w1.drewN nq).cell? ⟨w.heap.size, 0, none⟩ = some (.int .i64 e) := c0
    have d1 : (w1.drewN nq).cell? ⟨w.heap.size, 1, none⟩ = some (.int .i64 n) := c1
    have belq : Below base w (w1.drewN nq) := below_drewN (bel1.mono hb) nq
    generalize w1.drewN nq = wq at *
    obtain ⟨w2, hw2, sz2, bel2, own2⟩ := sts_step wq #[.int .i64 e, .int .i64 n] 1 [(e, n)] rfl rfl (by simp [maxLen])
    have own3 := ownS_below own1' bel2
    rw [szq, sz1] at own2
    clear own1 own1' c0 c1 X HB
    go_wp2_with (at_builtin; refine wpList_append_sts rfl (.tmp 11) (.tmp 17) rfl base _ l rfl own3 _ [(e, n)] rfl own2.row HL.out (by omega) ?_)
    intro v2 w3 own4 bel3 _
    go_wp2
    go_ret
    exact ⟨_, rfl, own4, (belq.trans (bel2.mono (by omega))).trans bel3⟩

end Go.Proofs.Ytabfihicdphjeaa

/- The contracts of starts' Of and Grown. -/
namespace Go.Proofs.Ytabfihicdphjeaa
open Go.RowKit
set_option linter.unusedVariables false

theorem told_len : ∀ (l : List Cm.Cv) (ep : Int), (Sm.told ep l).length ≤ l.length
  | [], _ => by simp [Sm.told]
  | c :: r, ep => by
    have := told_len r c.e
    unfold Sm.told
    split
    · simp; omega
    · simp; omega

/-- What Of comes to. -/
def ofs (l : List Cm.Cv) : List Sm.S := if (Cm.fol 0 0 0 l).1 = 0 then Sm.told 0 l else []

theorem ofs_ok {l : List Cm.Cv} (h : (Cm.fol 0 0 0 l).1 = 0) : ofs l = Sm.told 0 l := if_pos h
theorem ofs_no {l : List Cm.Cv} (h : (Cm.fol 0 0 0 l).1 ≠ 0) : ofs l = [] := if_neg h

theorem cvs_next {r : List Cw} {k : Nat} {c : Cw} (h : r[k]? = some c) : cvs (r.take (k + 1)) = cvs (r.take k) ++ [c.c] := by
  unfold cvs
  rw [List.take_add_one, h]
  simp

set_option maxRecDepth 100000 in
set_option maxHeartbeats 2000000 in
theorem of_any (vl : Value) (r : List Cw) (w : World) (h : IsC w vl r) (hf : FitC r) (hl : r.length ≤ 1000000) :
    Calls Try.prog 27 #[vl] w fun E w' => ∃ v, E = .returned (.tuple #[v, flv (Cm.fol 0 0 0 (cvs r))]) ∧ OwnS w.heap.size w' v (ofs (cvs r)) ∧ Below w.heap.size w w' := by
  have hl2 : r.length ≤ 140737488355328 := by omega
  obtain ⟨ao, cap, hvl, hcap, hcm⟩ := h.1.shape
  subst hvl
  obtain ⟨w1, hw1, sz1, bel1, hR⟩ := blk_step w #[.int .i64 0, .int .i64 0] 42
  have X := hide (cfol_any 0 0 _ r w1 (h.below bel1) hf hl2)
  unfold flv at X ⊢
  have HOK := hide (ofs_ok (l := cvs r))
  have HNO := hide (ofs_no (l := cvs r))
  have HZ := hide (Cm.fol_at (cvs r) 0 0 0)
  have HGD := hide (Cm.fol_good (cvs r) 0 0 0)
  obtain ⟨fl, hfl⟩ : ∃ f, Cm.fol 0 0 0 (cvs r) = f := ⟨_, rfl⟩
  rw [hfl] at X HOK HNO HZ HGD ⊢
  obtain ⟨fe, fp⟩ := fl
  simp only at X HOK HNO HZ HGD ⊢
  clear hfl
  have HI := hide h
  have HR := hide hR
  clear h hR
  go_enter Try.func27, Try.ntmps27
  go_wp2_with fail
  refine X.out.mono ?_
  rintro E w2 ⟨rfl, bel2⟩
  have s2 := bel2.size
  obtain ⟨w3, hw3, hw3', sz3, bel3, hF, c0, c1⟩ := new_two w2 42 (.int .i64 0) (.int .i64 0) (.int .i64 fe) (.int .i64 fp)
  have bel13 : Below w1.heap.size w1 w3 := bel2.trans (bel3.mono s2)
  have bel03 : Below w.heap.size w w3 := bel1.trans (bel13.mono (by omega))
  have hR3 := (bel13.block w.heap.size (by omega)).trans HR.out
  have hnq := Try.neqF fe fp 0 0
  have hgd := Try.guardF
  have I3 := hide (HI.out.below bel03)
  have HF := hide hF
  clear X HR bel2 bel3 bel1 hF HI
  by_cases hfe : fe = 0
  · have hfp : fp = 0 := HZ.out hfe
    have hb : (!((fe == 0) && (fp == 0))) = false := by simp [hfe, hfp]
    rw [hb] at hnq
    have GD := hide (HGD.out.1 hfe)
    have HO := hide (HOK.out hfe)
    subst hfe hfp
    have g0 := blk_froz HF.out 0
    have g1 := blk_froz HF.out 1
    have y0 : w3.setCell ⟨w2.heap.size, 0, none⟩ (.int .i64 0) = w3 := set_same HF.out (j := 0) rfl
    have y1 : w3.setCell ⟨w2.heap.size, 1, none⟩ (.int .i64 0) = w3 := set_same HF.out (j := 1) rfl
    clear hb HOK HNO HZ HGD hf
    by_cases hz : r.length = 0
    · have hr : r = [] := List.eq_nil_of_length_eq_zero hz
      subst hr
      obtain ⟨V, hV, bV, gV, ⟨a0, a1⟩, ⟨f0, f1⟩, ⟨z0, z1⟩⟩ := res_two hR3 (.int .i64 0) (.int .i64 0)
      have belV := below_put bel03 gV (by omega) (by omega)
      clear bV gV hR3 I3 GD hl hl2 hz
      simp only [List.length_nil]
      go_wp2
      go_loopw [5, 16] (fun lv iv wr => lv = .slice none 0 0 ∧ iv = .int .i64 0 ∧ wr = w3) (fun _ _ _ => 0)
      case atStart => exact ⟨rfl, rfl, by first | rfl | rw [y0, y1]⟩
      case round =>
        obtain ⟨rfl, rfl, rfl⟩ := hrel
        go_wp2
        refine bodyPost_ret (v := .tuple #[.slice none 0 0, .agg #[.int .i64 0, .int .i64 0]]) (by simp [results, Try.results27, go_sem, z0, z1]) rfl ?_
        exact ⟨_, rfl, by rw [HO.out]; exact OwnG.nil _ _ _ _ _, belV⟩
    obtain ⟨b1, o1, cp, hvl, _, _, hB, hcell⟩ := I3.out.1.full (by omega)
    have hao : ao = some ⟨b1, o1, none⟩ := by simp at hvl; exact hvl.1
    subst hao
    have HIN := hide I3.out.2
    have HC := hide hcell
    have H3 := hide hR3
    generalize hn : r.length = n at *
    have HN := hide hn
    clear hvl hcell I3 hR3 hn hw1 hw3
    go_wp2
    go_loopw [5, 16] (fun lv iv wr => ∃ k : Nat, k ≤ n ∧ iv = .int .i64 k ∧ OwnS w3.heap.size wr lv (Sm.told 0 (cvs (r.take k))) ∧ Below w3.heap.size w3 wr) (fun _ iv _ => n - (intOf iv).toNat)
    case atStart => exact ⟨0, by omega, rfl, OwnG.nil _ _ _ _ _, by first | exact Below.refl _ _ | (rw [y0, y1]; exact Below.refl _ _)⟩
    case round =>
      obtain ⟨k, hk, rfl, own, bel⟩ := hrel
      have sz := bel.size
      by_cases hlt : k < n
      · obtain ⟨c, hc⟩ : ∃ c, r[k]? = some c := at_of (by have := HN.out; omega)
        obtain ⟨e0, e1, e2⟩ := HC.out k c hc
        have d0 := (bel.cell (p := ⟨b1, o1 + k * 3, none⟩) hB).trans e0
        have d1 := (bel.cell (p := ⟨b1, o1 + k * 3 + 1, none⟩) hB).trans e1
        have d2 := (bel.cell (p := ⟨b1, o1 + k * 3 + 2, none⟩) hB).trans e2
        obtain ⟨i1, _, _⟩ := HIN.out c (List.mem_of_getElem? hc)
        have HCD := hide (cvs_next hc)
        have hlt' : (k : Int) < n := by omega
        obtain ⟨ac, cc, hcv, _, _⟩ := i1.shape
        rw [hcv] at d2
        obtain ⟨V, hV, hV2, szV, belV, bC, q0, q1, q2⟩ := new_step wr 46 (.int .i64 0) (.int .i64 0) (.slice none 0 0) (.int .i64 c.e) (.int .i64 c.n) (.slice ac c.l.length cc)
        have ownV := ownS_below own belV
        have hln : (Sm.told 0 (cvs (r.take k))).length ≤ k := Nat.le_trans (told_len _ _) (by unfold cvs; rw [List.length_map, List.length_take]; omega)
        have HL : Hid (((Sm.told 0 (cvs (r.take k))).length + 1) * 16 ≤ 140737488355328) := hide (by omega)
        have HG : Hid (Sm.grw (Sm.told 0 (cvs (r.take k))) c.e c.n = Sm.told 0 (cvs (r.take (k + 1)))) := hide (by rw [HCD.out, Sm.told_grw]; rfl)
        have HB : Hid (w3.heap.size ≤ V.heap.size) := hide (by omega)
        generalize Sm.told 0 (cvs (r.take k)) = u at *
        clear e0 e1 e2 hc i1 hcv bC own hln HCD
        go_wp2_with fail
        refine (grow_any w3.heap.size _ u c.e c.n ac c.l.length cc V ownV HL.out HB.out).mono ?_
        rintro E w4 ⟨v4, rfl, own4, bel4⟩
        rw [HG.out] at own4
        have belA : Below w3.heap.size w3 w4 := (bel.trans (belV.mono (by omega))).trans bel4
        clear HG HL ownV bel belV bel4 hV hV2 q0 q1 q2 d0 d1 d2
        go_wp2
        go_roundw
        case rel => exact ⟨k + 1, by omega, by go_num, own4, belA⟩
        case measure => simp [intOf]; omega
      · have hlt' : ¬ (k : Int) < n := by omega
        have hrk : r.take k = r := List.take_of_length_le (by have := HN.out; omega)
        rw [hrk] at own
        have hRX := (bel.block w.heap.size (by omega)).trans H3.out
        obtain ⟨V, hV, bV, gV, ⟨a0, a1⟩, ⟨f0, f1⟩, ⟨z0, z1⟩⟩ := res_two hRX (.int .i64 0) (.int .i64 0)
        have belV := below_put (bel03.trans (bel.mono (by omega))) gV (by omega) (by omega)
        have ownA := own.agree (w' := V) fun b hb => gV.block b (OwnG.lt own b hb).2 (by have := OwnG.lt own b hb; simp; omega)
        have ownV := ownS_rebase (base' := w.heap.size) ownA (by omega)
        rw [← HO.out] at ownV
        have HV := hide ownV
        clear hRX bV gV bel own ownV ownA hrk
        go_wp2
        refine bodyPost_ret (v := .tuple #[_, .agg #[.int .i64 0, .int .i64 0]]) (by simp [results, Try.results27, go_sem, z0, z1]; rfl) rfl ?_
        exact ⟨_, rfl, HV.out, belV⟩
  · have hb : (!((fe == 0) && (fp == 0))) = true := by simp [hfe]
    rw [hb] at hnq
    have HO := hide (HNO.out hfe)
    obtain ⟨V, hV, bV, gV, ⟨a0, a1⟩, ⟨f0, f1⟩, ⟨z0, z1⟩⟩ := res_two hR3 (.int .i64 fe) (.int .i64 fp)
    have belV := below_put bel03 gV (by omega) (by omega)
    clear hb HOK HNO HZ HGD bV gV hR3 hfe I3
    go_wp2
    go_region
    go_wp2
    refine bodyPost_ret (v := .tuple #[.slice none 0 0, .agg #[.int .i64 fe, .int .i64 fp]]) (by simp [results, Try.results27, go_sem, z0, z1]) rfl ?_
    exact ⟨_, rfl, by rw [HO.out]; exact OwnG.nil _ _ _ _ _, belV.drew⟩

end Go.Proofs.Ytabfihicdphjeaa

/- Parts of the program's Hello, Next and Ack (layer 17): isEpoch, lastEpoch, checkLog, copies. -/
namespace Go.Proofs.Ytabfihicdphjeaa
open Go.RowKit
set_option linter.unusedVariables false

/-- 'v[p:q]' of commits. -/
theorem RowC.slice_lh {P : Program} {w : World} {v : Value} {l : List Cw} (h : RowC w v l) {t : TypeId} (ht : P.underlying t = some (.slice (P.elem t))) (hs : ∀ wx, (sizeOf (P.elem t)).run P wx = .ok 3 wx) (p q : Nat) (hp : p ≤ q) (hq : q ≤ l.length) :
    ∃ vs, (∀ wx, (Instr.slice t v (some (.int .i64 p)) (some (.int .i64 q)) none).run P wx = .ok vs wx) ∧ RowC w vs ((l.drop p).take (q - p)) := by
  have hlen : ((l.drop p).take (q - p)).length = q - p := by rw [List.length_take, List.length_drop]; omega
  rcases h with ⟨hv, hz⟩ | ⟨ad, cap, hv, h1, h2, hc⟩
  · subst hz hv
    simp at hq
    subst hq
    obtain rfl : p = 0 := by omega
    refine ⟨.slice none 0 0, fun wx => ?_, RowC.nil _⟩
    rw [run_slice_lh wx t none 0 0 ht .i64 .i64 _ _ (by omega) (by omega) (by omega), hs]
    rfl
  · subst hv
    by_cases hcl : cap = p
    · have hpl : q = p := by omega
      subst hpl
      refine ⟨.slice (some ad) 0 0, fun wx => ?_, .inr ⟨ad, 0, by rw [hlen]; simp, by rw [hlen]; simp, by simp, fun j u hj => ?_⟩⟩
      · rw [run_slice_lh wx t (some ad) l.length cap ht .i64 .i64 _ _ (by omega) (by omega) (by omega), hs]
        simp [Result.andThen, sliced, hcl]
      · simp [ccells] at hj
    · refine ⟨.slice (some (ad.add (p * 3))) (q - p) (cap - p), fun wx => ?_, .inr ⟨ad.add (p * 3), cap - p, by rw [hlen], by rw [hlen]; omega, by omega, fun j u hj => ?_⟩⟩
      · rw [run_slice_lh wx t (some ad) l.length cap ht .i64 .i64 _ _ (by omega) (by omega) (by omega), hs]
        simp [Result.andThen, sliced, hcl]
      · rw [ccells_take, List.getElem?_take] at hj
        split at hj
        · rw [ccells_drop, List.getElem?_drop] at hj
          have e : (ad.add (p * 3)).add j = ad.add (p * 3 + j) := by
            unfold Addr.add
            by_cases h0 : p * 3 = 0 <;> by_cases h3 : j = 0 <;> simp [h0, h3, Nat.add_assoc]
          rw [e]
          exact hc _ _ hj
        · simp at hj

theorem pise_any (e : Int) (w : World) : Calls Try.prog 32 #[.int .i64 e] w fun E w' => E = .returned (.bool (decide (1 ≤ e ∧ e ≤ 1048576))) ∧ w' = w := by
  by_cases h1 : 1 ≤ e
  · by_cases h2 : e ≤ 1048576
    · have hd : decide (1 ≤ e ∧ e ≤ 1048576) = true := by simp [h1, h2]
      rw [hd]
      clear hd
      go_enter Try.func32, Try.ntmps32
      go_wp2
      go_ret
      exact ⟨rfl, rfl⟩
    · have hd : decide (1 ≤ e ∧ e ≤ 1048576) = false := by simp [h2]
      rw [hd]
      clear hd
      go_enter Try.func32, Try.ntmps32
      go_wp2
      go_ret
      exact ⟨rfl, rfl⟩
  · have hd : decide (1 ≤ e ∧ e ≤ 1048576) = false := by simp [h1]
    rw [hd]
    clear hd
    go_enter Try.func32, Try.ntmps32
    go_wp2
    go_ret
    exact ⟨rfl, rfl⟩

set_option maxRecDepth 20000 in
theorem plast_any (v : Value) (rs : List Cw) (w : World) (h : RowC w v rs) (hl : rs.length ≤ 1000000) : Calls Try.prog 30 #[v] w fun E w' => E = .returned (.int .i64 (Cm.lastE 0 (cvs rs))) ∧ w' = w := by
  by_cases h0 : 0 < rs.length
  · obtain ⟨b, off, cap, hv, _, _, hb, hcell⟩ := h.full h0
    obtain ⟨c, hc⟩ : ∃ c, rs[rs.length - 1]? = some c := ⟨rs[rs.length - 1], by rw [List.getElem?_eq_getElem]⟩
    have d0 := (hcell _ c hc).1
    have hla := last_row hc (by omega)
    rw [hla]
    obtain ⟨n, hn⟩ : ∃ n, rs.length = n + 1 := ⟨rs.length - 1, by omega⟩
    have hn1 : rs.length - 1 = n := by omega
    rw [hn1] at d0
    have g2 : IntKind.i64.wrap ((rs.length : Int) - 1) = (n : Int) := by rw [wrap64s _ (by omega) (by omega)]; omega
    have g3 : (n : Int) < (rs.length : Int) := by omega
    have g4 : (0 : Int) ≤ (n : Int) := by omega
    have g5 : ((rs.length : Int) == 0) = false := by rw [beq_eq_false_iff_ne]; omega
    generalize rs.length = m at *
    subst hv
    clear h hcell hla hc h0 hn hn1 hl
    go_enter Try.func30, Try.ntmps30
    go_wp2
    go_ret
    exact ⟨rfl, rfl⟩
  · obtain ⟨ao, cap, hvl, _, _⟩ := h.shape
    have hz : rs = [] := List.eq_nil_of_length_eq_zero (by omega)
    subst hz
    rw [List.length_nil] at hvl
    subst hvl
    show Calls Try.prog 30 _ w fun E w' => E = .returned (.int .i64 0) ∧ w' = w
    clear h h0 hl
    go_enter Try.func30, Try.ntmps30
    go_wp2
    go_ret
    exact ⟨rfl, rfl⟩

set_option maxRecDepth 20000 in
set_option maxHeartbeats 2000000 in
theorem plck_any (e : Int) (v : Value) (rs : List Cw) (w : World) (h : IsC w v rs) (hf : FitC rs) (hl : rs.length ≤ 1000000) :
    Calls Try.prog 29 #[.int .i64 e, v] w fun E w' => E = .returned (.int .i64 (Shp.lck e (cvs rs))) ∧ Below w.heap.size w w' := by
  obtain ⟨ao, cap, hvl, hcap, hcm⟩ := h.1.shape
  have HE := hide (pise_any e w)
  by_cases h12 : e < 1 ∨ 1048576 < e
  · rw [Shp.lck_arg h12]
    rw [show decide (1 ≤ e ∧ e ≤ 1048576) = false by rw [decide_eq_false_iff_not]; omega] at HE
    clear h hf h12
    subst hvl
    go_enter Try.func29, Try.ntmps29
    go_wp2_with fail
    refine HE.out.mono ?_
    rintro E w2 ⟨rfl, hw2⟩
    obtain rfl := hw2.symm
    clear HE
    go_wp2
    go_ret
    exact ⟨rfl, Below.refl _ _⟩
  rw [show decide (1 ≤ e ∧ e ≤ 1048576) = true by rw [decide_eq_true_iff]; omega] at HE
  have X := hide (cfol_any 0 0 v rs w h hf (by omega))
  unfold flv at X
  have HB := hide (fun k => Shp.lck_fol (l := cvs rs) h12 k)
  have HO := hide (fun k q => Shp.lck_ord (l := cvs rs) h12 k q)
  have HK := hide (fun k q => Shp.lck_ok (l := cvs rs) h12 k q)
  obtain ⟨z, hz⟩ : ∃ z, Shp.lck e (cvs rs) = z := ⟨_, rfl⟩
  rw [hz] at HB HO HK ⊢
  obtain ⟨fl, hfl⟩ : ∃ f, Cm.fol 0 0 0 (cvs rs) = f := ⟨_, rfl⟩
  rw [hfl] at X HB HO HK
  clear hz
  obtain ⟨fe, fp⟩ := fl
  simp only at X HB HO HK
  clear hfl
  have HL : Hid (∀ W, Below w.heap.size w W → Calls Try.prog 30 #[v] W fun E w' => E = .returned (.int .i64 (Cm.lastE 0 (cvs rs))) ∧ w' = W) := hide fun W hW => plast_any v rs W (h.below hW).1 hl
  obtain ⟨la, hla⟩ : ∃ x, Cm.lastE 0 (cvs rs) = x := ⟨_, rfl⟩
  rw [hla] at HL HO HK
  rw [hvl] at X HL
  subst hvl
  clear h hf hla
  go_enter Try.func29, Try.ntmps29
  go_wp2_with fail
  refine HE.out.mono ?_
  rintro E w2 ⟨rfl, hw2⟩
  obtain rfl := hw2.symm
  clear HE
  go_wp2_with fail
  refine X.out.mono ?_
  rintro E w2 ⟨rfl, bel2⟩
  obtain ⟨w3, hw3, hw3', sz3, bel3, hF, c0, c1⟩ := new_two w2 42 (.int .i64 0) (.int .i64 0) (.int .i64 fe) (.int .i64 fp)
  have bel03 : Below w.heap.size w w3 := bel2.trans (bel3.mono bel2.size)
  have B3 := hide bel03
  clear X bel2 bel3 hF
  by_cases hfe : fe = 0
  · have hb : (fe != 0) = false := by simp [hfe]
    have Y := hide (HL.out w3 bel03)
    clear HL HB
    by_cases h3 : e < la
    · have HE := hide (HO.out hfe h3)
      clear HO HK bel03 hfe
      go_wp2_with fail
      refine Y.out.mono ?_
      rintro E w4 ⟨rfl, hw4⟩
      obtain rfl := hw4.symm
      clear Y
      go_wp2
      go_ret
      exact ⟨by rw [HE.out]; rfl, B3.out⟩
    · have HE := hide (HK.out hfe (by omega))
      clear HO HK bel03 hfe
      go_wp2_with fail
      refine Y.out.mono ?_
      rintro E w4 ⟨rfl, hw4⟩
      obtain rfl := hw4.symm
      clear Y
      go_wp2
      go_ret
      exact ⟨by rw [HE.out]; rfl, B3.out⟩
  · have hb : (fe != 0) = true := by simp [hfe]
    have HE := hide (HB.out hfe)
    clear HO HK HB HL bel03
    go_wp2
    go_ret
    exact ⟨by rw [HE.out]; rfl, B3.out⟩

set_option maxRecDepth 20000 in
set_option maxHeartbeats 2000000 in
theorem pcopies_any (vl : Value) (r : List Cw) (w : World) (h : IsC w vl r) (hf : ∀ c ∈ r, CFit c.e c.n c.l) (hl : r.length ≤ 1000000) :
    Calls Try.prog 31 #[vl] w fun E w' => ∃ v cs, E = .returned v ∧ ShS w.heap.size w' v cs ∧ cvs cs = cvs r ∧ Below w.heap.size w w' := by
  by_cases hz : r.length = 0
  · have : r = [] := List.eq_nil_of_length_eq_zero hz
    subst this
    obtain ⟨ao, cap, rfl, _, _⟩ := h.1.shape
    clear h hf hl hz
    simp only [List.length_nil]
    go_enter Try.func31, Try.ntmps31
    go_wp2
    go_loopw [3, 8] (fun ov iv wr => ov = .slice none 0 0 ∧ iv = .int .i64 0 ∧ wr = w) (fun _ _ _ => 0)
    case atStart => exact ⟨rfl, rfl, rfl⟩
    case round =>
      obtain ⟨rfl, rfl, rfl⟩ := hrel
      go_wp2
      go_ret
      exact ⟨_, [], rfl, ShS.nil _ _, rfl, Below.refl _ _⟩
  obtain ⟨b1, o1, c1, hvl, _, _, hB, hcell⟩ := h.1.full (by omega)
  subst hvl
  have HIN := hide h.2
  have HFIT := hide hf
  have HC := hide hcell
  generalize hn : r.length = n at *
  have HN := hide hn
  clear h hcell hf hn
  go_enter Try.func31, Try.ntmps31
  go_wp2
  go_loopw [3, 8] (fun ov iv wr => ∃ (k : Nat) (cs : List Cw) (a : Option Addr) (q : Nat), k ≤ n ∧ iv = .int .i64 k ∧ ov = .slice a k q ∧ cs.length = k ∧ Hid (ShS w.heap.size wr (.slice a k q) cs ∧ cvs cs = cvs (r.take k)) ∧ Below w.heap.size w wr) (fun _ iv _ => n - (intOf iv).toNat)
  case atStart => exact ⟨0, [], none, 0, by omega, rfl, rfl, rfl, hide ⟨ShS.nil _ _, rfl⟩, Below.refl _ _⟩
  case round =>
    obtain ⟨k, cs, a, q, hk, rfl, rfl, hrl, HT, bel⟩ := hrel
    have sz := bel.size
    by_cases hlt : k < n
    · obtain ⟨c, hc⟩ : ∃ c, r[k]? = some c := ⟨r[k]'(by have := HN.out; omega), by rw [List.getElem?_eq_getElem]⟩
      obtain ⟨e0, e1, e2⟩ := HC.out k c hc
      have d0 := (bel.cell (p := ⟨b1, o1 + k * 3, none⟩) hB).trans e0
      have d1 := (bel.cell (p := ⟨b1, o1 + k * 3 + 1, none⟩) hB).trans e1
      have d2 := (bel.cell (p := ⟨b1, o1 + k * 3 + 2, none⟩) hB).trans e2
      have hmem := List.mem_of_getElem? hc
      obtain ⟨i1, _, _⟩ := HIN.out c hmem
      have hfc := HFIT.out c hmem
      obtain ⟨ac, cc, hcv, _, _⟩ := i1.shape
      have i2 := i1.below bel
      rw [hcv] at d2 i2
      obtain ⟨V, hV, hV2, szV, belV, bC, q0, q1, q2⟩ := new_step wr 46 (.int .i64 0) (.int .i64 0) (.slice none 0 0) (.int .i64 c.e) (.int .i64 c.n) (.slice ac c.l.length cc)
      have HNX : Hid (∀ v', cvs (cs ++ [⟨c.e, c.n, v', c.l⟩]) = cvs (r.take (k + 1))) := hide fun v' => cvs_snoc HT.out.2 hc rfl
      have CP := hide (ccopy_any c.e c.n _ c.l V (i2.below belV) (by have := hfc.2.2.2; omega))
      have FC := hide hfc
      have hlt' : (k : Int) < n := by omega
      clear hc hmem i1 e0 e1 e2 i2 hfc hcv
      unfold cmv at CP
      go_wp2_with fail
      refine CP.out.mono ?_
      rintro E w2 ⟨v2, rfl, own2, bel2⟩
      have sz2 := bel2.size
      obtain ⟨ah, ch, hv2, _, _⟩ := own2.is.shape
      have belz : Below wr.heap.size wr w2 := belV.trans (bel2.mono (by omega))
      have hshV := HT.out.1.below belV
      obtain ⟨V3, hV3, bel3, sz3, hpu⟩ := hshV.push (by omega) bel2 ⟨c.e, c.n, v2, c.l⟩ own2 FC.out (by omega)
      have PU := hide hpu
      have hV3' : w2.alloc (.cells #[.int .i64 c.e, .int .i64 c.n, .slice ah c.l.length ch] 46) = V3 := by rw [← hV3, ← hv2]
      have bel03 : Below w.heap.size w V3 := (bel.trans (belz.mono (by omega))).trans (bel3.mono (by omega))
      subst hv2
      clear CP hshV hpu bel2 belV own2 belz bel3 bC
      go_wp2_with (at_builtin; refine wpList_append_at rfl (.tmp 12) (.tmp 15) 24 rfl (.slice a k q) (.slice (some ⟨w2.heap.size, 0, none⟩) 1 1) rfl rfl PU.out ?_)
      rintro v4 w4 sh4 gr4 a4 n4 k4 rfl
      have bel04 : Below w.heap.size w w4 := bel03.trans ((Below.refl _ _).grown gr4 bel03.size fun g hg => (World.ownsRow.lt HT.out.1.c g hg).1)
      obtain ⟨ja, jk, hjv, _, _⟩ := sh4.c.row.shape
      simp only [Value.slice.injEq] at hjv
      obtain ⟨rfl, rfl, rfl⟩ := hjv
      have hjl : (cs ++ [(⟨c.e, c.n, .slice ah c.l.length ch, c.l⟩ : Cw)]).length = k + 1 := by rw [List.length_append, hrl]; rfl
      rw [hjl] at sh4 ⊢
      have HT2 := hide (And.intro sh4 (HNX.out (.slice ah c.l.length ch)))
      clear HT HNX PU gr4 bel03 sh4
      go_wp2
      go_roundw
      case rel => exact ⟨k + 1, _, _, _, by omega, by go_num, rfl, hjl, HT2, bel04⟩
      case measure => simp [intOf]; omega
    · have hlt' : ¬ (k : Int) < n := by omega
      have HE : Hid (cvs cs = cvs r) := hide (by rw [HT.out.2, List.take_of_length_le (by have := HN.out; omega)])
      go_wp2
      go_ret
      exact ⟨_, rfl, cs, HT.out.1, HE.out, bel⟩

end Go.Proofs.Ytabfihicdphjeaa
