/- Texts of one layer, one behind the other. -/
import Derived.Test.YtmmfakpphjjjfaaGreatG28
import Derived.Test.YtmmfakpphjjjfaaGreatG9
/- The document's table of commits. -/
namespace Go.Proofs.YtmmfakpphjjjfaaGreat
open Go.RowKit
open Bm (Ov)
set_option linter.unusedVariables false

set_option maxRecDepth 20000 in
set_option maxHeartbeats 2000000 in
theorem foldR_any (vl : Value) (r : List Cw) (w : World) (h : IsC w vl r) (hf : FitC r) (hg : ∀ c ∈ r, ∀ o ∈ c.l, o.c = 0) (hr : r.length ≤ 100000) (hl : (Rl.ops (cvs r)).length ≤ 800000) :
  Calls Tryz.prog 94 #[vl] w fun E w' => ∃ v, E = .returned (.pointer (some ⟨w.heap.size, 0, none⟩)) ∧ Dt w.heap.size w.heap.size w' v (Rl.tab (cvs r)) ∧ Below w.heap.size w w' := by
 obtain ⟨a1, k1, hv, _, _⟩ := h.1.shape
 have HC := hide h
 have HFT := hide hf
 have HG := hide hg
 subst hv
 clear h hf hg
 go_enter Tryz.func94, Tryz.ntmps94
 go_wp2_with fail
 refine (tnewR_any w).mono ?_
 rintro E w1 ⟨rfl, D1, b1⟩
 have DH : Hid (Dt w.heap.size w.heap.size w1 (.slice none 0 0) (Tm.app [] (Rl.ops ((cvs r).take 0)))) := hide D1
 have BH := hide b1
 clear D1 b1
 go_wp2
 go_loopw [4] (fun iv wr => ∃ (k : Nat) (vt : Value), k ≤ r.length ∧ iv = .int .i64 k ∧ Hid (Dt w.heap.size w.heap.size wr vt (Tm.app [] (Rl.ops ((cvs r).take k)))) ∧ Hid (Below w.heap.size w wr)) (fun iv _ => r.length - (intOf iv).toNat)
 case atStart => exact ⟨0, .slice none 0 0, by omega, rfl, DH, BH⟩
 case round =>
  obtain ⟨k, vt, hk, rfl, DR, BR⟩ := hrel
  clear DH BH
  have hcl0 : (cvs r).length = r.length := cvs_length r
  by_cases hlt : k < r.length
  ·have hlt' : (k : Int) < r.length := by omega
   have hk0 : (0 : Int) ≤ (k : Int) := by omega
   have CR := HC.out.below BR.out
   obtain ⟨b1, o1, e1, hvx, _, _, hB, hcl⟩ := CR.1.full (by omega)
   simp only [Value.slice.injEq, true_and] at hvx
   obtain ⟨rfl, rfl⟩ := hvx
   obtain ⟨c, hc⟩ : ∃ c, r[k]? = some c := ⟨r[k], by rw [List.getElem?_eq_getElem]⟩
   obtain ⟨y0, y1, y2⟩ := hcl k c hc
   have hcm := List.mem_of_getElem? hc
   have io := (CR.2 c hcm).1
   obtain ⟨ax, cx, hcv, _, _⟩ := io.shape
   have hlc : (cvs r)[k]? = some c.c := by rw [cvs, List.getElem?_map, hc]; rfl
   have haft : Tm.aft (Tm.app [] (Rl.ops ((cvs r).take k))) c.l = Tm.app [] (Rl.ops ((cvs r).take (k + 1))) := by
    unfold Tm.aft
    rw [if_pos (Bm.first_all (HG.out c hcm)), app_take hlc]
    rfl
   have hsum : (Tm.app [] (Rl.ops ((cvs r).take k))).length + c.l.length ≤ 800000 := by
    have z1 := app_ops_len [] (Rl.ops ((cvs r).take k))
    have z2 : Rl.ops (cvs r) = Rl.ops ((cvs r).take k) ++ Rl.ops ((cvs r).drop k) := by rw [← Sto.ops_app, List.take_append_drop]
    have z3 : (cvs r).drop k = c.c :: (cvs r).drop (k + 1) := by
     obtain ⟨hkl, hke⟩ := List.getElem?_eq_some_iff.1 hlc
     rw [← hke, List.drop_eq_getElem_cons]
    have z4 : Rl.ops (c.c :: (cvs r).drop (k + 1)) = c.l ++ Rl.ops ((cvs r).drop (k + 1)) := by simp [Rl.ops, Cw.c]
    rw [z2, z3, z4, List.length_append, List.length_append] at hl
    simp at z1
    omega
   have hbw : 0 < c.l.length → ∀ b, c.v.ownBlock = some b → b < w.heap.size := fun h0 b hb => by
    have i0 := (HC.out.2 c hcm).1
    rcases i0 with ⟨_, h⟩ | ⟨ad, cap, hv, h1, h2, hcc⟩
    ·rw [h] at h0
     simp at h0
    ·rw [hv] at hb
     have e : ad.block = b := by simpa [Value.ownBlock] using hb
     obtain ⟨o, q, hoq⟩ : ∃ o q, c.l = o :: q := by
      rcases hcl9 : c.l with _ | ⟨o, q⟩
      ·rw [hcl9] at h0; simp at h0
      ·exact ⟨o, q, rfl⟩
     have hk9 := hcc 0 (.bool o.p) (by rw [hoq]; rfl)
     have hlt := World.block_lt_of_cell? _ _ hk9
     have eb : (ad.add 0).block = ad.block := by unfold Addr.add; split <;> rfl
     rw [eb, e] at hlt
     exact hlt
   have AP := hide (applyR_any w.heap.size w.heap.size wr vt c.v (Tm.app [] (Rl.ops ((cvs r).take k))) c.l DR.out (Tm.up_app _ Rl.up_nil) io (fun h0 b hb e => by
    have q1 := hbw h0 b hb
    omega) (HFT.out c hcm).1 (by omega) BR.out.size)
   rw [haft] at AP
   rw [hcv] at AP y2
   clear hcl hc hcv hlc haft hcm CR io hbw
   go_wp2_with fail
   refine AP.out.mono ?_
   rintro E w4 ⟨rfl, ⟨v4, D4, _⟩, o4⟩
   have B4 := hide (BR.out.trans (o4.below (fun g hg => by omega) BR.out.size))
   have DD4 := hide D4
   clear AP D4 o4
   go_wp2
   go_roundw
   case rel => exact ⟨k + 1, v4, by omega, by go_num, DD4, B4⟩
   case measure => simp [intOf]; omega
  ·have hge : ¬ (k : Int) < r.length := by omega
   have e : (cvs r).take k = cvs r := List.take_of_length_le (by omega)
   have DF : Hid (Dt w.heap.size w.heap.size wr vt (Rl.tab (cvs r))) := hide (by
    have := DR.out
    rw [e] at this
    exact this)
   clear DR
   go_wp2
   go_ret
   first | exact ⟨vt, rfl, DF.out, BR.out⟩ | exact ⟨rfl, ⟨vt, DF.out⟩, BR.out⟩

end Go.Proofs.YtmmfakpphjjjfaaGreat

/- The document's Copies of commits. -/
namespace Go.Proofs.YtmmfakpphjjjfaaGreat
open Go.RowKit
set_option linter.unusedVariables false

set_option maxHeartbeats 1000000 in
theorem copiesX_any (vl : Value) (r : List Cw) (w : World) (h : IsC w vl r) (hf : FitC r) (hl : r.length ≤ 1048576) :
  Calls Tryz.prog 45 #[vl] w fun E w' => ∃ v rs, E = .returned v ∧ OwnR 50 w.heap.size w' v rs ∧ cvs rs = cvs r ∧ CopyR w.heap.size w' rs ∧ Below w.heap.size w w' := by
 by_cases hz : r.length = 0
 ·have : r = [] := List.eq_nil_of_length_eq_zero hz
  subst this
  obtain ⟨ao, cap, rfl, _, _⟩ := h.1.shape
  clear h hf hl hz
  simp only [List.length_nil]
  go_enter Tryz.func45, Tryz.ntmps45
  go_wp2
  go_loopw [3, 4] (fun ov iv wr => ov = .slice none 0 0 ∧ iv = .int .i64 0 ∧ wr = w) (fun _ _ _ => 0)
  case atStart => exact ⟨rfl, rfl, rfl⟩
  case round =>
   obtain ⟨rfl, rfl, rfl⟩ := hrel
   go_wp2
   go_ret
   exact ⟨_, [], rfl, OwnR.nil _ _ _, rfl, fun c hc => by simp at hc, Below.refl _ _⟩
 obtain ⟨b1, o1, c1, hvl, _, _, hB, hcell⟩ := h.1.full (by omega)
 subst hvl
 have HIN := hide h.2
 have HFIT := hide hf
 have HC := hide hcell
 generalize hn : r.length = n at *
 have HN := hide hn
 clear h hcell hf hn
 go_enter Tryz.func45, Tryz.ntmps45
 go_wp2
 go_loopw [3, 4] (fun ov iv wr => ∃ (k : Nat) (rs : List Cw), k ≤ n ∧ iv = .int .i64 k ∧ rs.length = k ∧ Hid (OwnR 50 w.heap.size wr ov rs ∧ cvs rs = cvs (r.take k) ∧ CopyR w.heap.size wr rs) ∧ Below w.heap.size w wr) (fun _ iv _ => n - (intOf iv).toNat)
 case atStart => exact ⟨0, [], by omega, rfl, rfl, ⟨OwnR.nil _ _ _, rfl, fun c hc => by simp at hc⟩, Below.refl _ _⟩
 case round =>
  obtain ⟨k, rs, hk, rfl, hrl, HT, bel⟩ := hrel
  have sz := bel.size
  by_cases hlt : k < n
  ·obtain ⟨c, hc⟩ : ∃ c, r[k]? = some c := ⟨r[k]'(by have := HN.out; omega), by rw [List.getElem?_eq_getElem]⟩
   obtain ⟨e0, e1, e2⟩ := HC.out k c hc
   have d0 := (bel.cell (p := ⟨b1, o1 + k * 3, none⟩) hB).trans e0
   have d1 := (bel.cell (p := ⟨b1, o1 + k * 3 + 1, none⟩) hB).trans e1
   have d2 := (bel.cell (p := ⟨b1, o1 + k * 3 + 2, none⟩) hB).trans e2
   have hmem := List.mem_of_getElem? hc
   obtain ⟨i1, _, _⟩ := HIN.out c hmem
   have i2 := i1.below bel
   obtain ⟨hfc, hlc⟩ := HFIT.out c hmem
   have HCK := hide hc
   have hlt' : (k : Int) < n := by omega
   clear hc hmem i1 e0 e1 e2
   go_wp2_with fail
   refine (copyX_any c.e c.n _ c.l _ i2 hlc).mono ?_
   rintro E w2 ⟨v2, rfl, own2, bel2⟩
   unfold cmv
   have sz2 := bel2.size
   obtain ⟨ah, ch, hv2, _, _⟩ := own2.is.shape
   subst hv2
   obtain ⟨w3, hw3, sz3, bel3, own3⟩ := coms_step 50 w2 #[.int .i64 c.e, .int .i64 c.n, .slice ah c.l.length ch] 1 [⟨c.e, c.n, .slice ah c.l.length ch, c.l⟩] rfl rfl (by simp [maxLen])
   obtain ⟨hO, hE, hP⟩ := HT.out
   have bel23 : Below wr.heap.size wr w3 := bel2.trans (bel3.mono (by omega))
   have hO3 := hO.below bel23
   have hP3 := hP.below bel23
   have own23 := (own2.below bel3).rebase (base' := w.heap.size) (by omega)
   have hlk : (rs.length + [(⟨c.e, c.n, .slice ah c.l.length ch, c.l⟩ : Cw)].length) * 40 ≤ 140737488355328 := by rw [List.length_singleton]; omega
   have HE := hide hE
   have HP := hide hP3
   have bel03 : Below w.heap.size w w3 := bel.trans (bel23.mono (by omega))
   clear HT hO hP hP3 hE bel2 bel3 bel23 own2 bel d0 d1 d2 i2
   go_wp2_with (at_builtin; refine wpList_append_coms rfl (.tmp 11) (.tmp 17) 22 rfl 50 w.heap.size Tryz.underlying22 Tryz.info50 _ rs rfl hO3 _ _ rfl own3.row (by intro c hc; rw [List.mem_singleton.1 hc]; rfl) hlk (by omega) ?_)
   intro v4 w4 own4 bel4 kp4
   have HT2 : Hid (OwnR 50 w.heap.size w4 v4 (rs ++ [⟨c.e, c.n, .slice ah c.l.length ch, c.l⟩]) ∧ cvs (rs ++ [⟨c.e, c.n, .slice ah c.l.length ch, c.l⟩]) = cvs (r.take (k + 1)) ∧ CopyR w.heap.size w4 (rs ++ [⟨c.e, c.n, .slice ah c.l.length ch, c.l⟩])) :=
    ⟨own4, cvs_snoc HE.out HCK.out rfl, (HP.out.keepT kp4).snoc (own23.keepT kp4 (by decide))⟩
   have bel04 := bel03.trans bel4
   clear own4 kp4 own23 own3 hO3 HE HP bel03 bel4 hlk
   go_wp2
   go_roundw
   case rel => exact ⟨k + 1, _, by omega, by go_num, by rw [List.length_append, hrl]; rfl, HT2, bel04⟩
   case measure => simp [intOf]; omega
  ·have hlt' : ¬ (k : Int) < n := by omega
   have HE : Hid (cvs rs = cvs r) := hide (by rw [HT.out.2.1, List.take_of_length_le (by have := HN.out; omega)])
   go_wp2
   go_ret
   exact ⟨_, rfl, rs, HT.out.1, HE.out, HT.out.2.2, bel⟩

end Go.Proofs.YtmmfakpphjjjfaaGreat
