/- Texts of one layer, one behind the other. -/
import Derived.Test.YtmmfakpphjjjfaaGreatG17
import Derived.Test.YtmmfakpphjjjfaaGreatG18
import Derived.Test.YtmmfakpphjjjfaaGreatG19
import Derived.Test.YtmmfakpphjjjfaaGreatG23
import Derived.Test.YtmmfakpphjjjfaaGreatG21
import Derived.Test.YtmmfakpphjjjfaaGreatG11
import Derived.Test.YtmmfakpphjjjfaaGreatG7
/- Runs are read out of a file's bytes; bytes are put behind the file. -/
namespace Go.Proofs.YtmmfakpphjjjfaaGreat
open Go.RowKit
set_option linter.unusedVariables false

def RdS (bs : List Int) (l : List Cm.Cv) : Prop := Rl.Good 0 l ∧ Rl.lgb l <+: bs

theorem RdS.nil (bs : List Int) : RdS bs [] := ⟨trivial, List.nil_prefix⟩

theorem RdS.le {bs : List Int} {l : List Cm.Cv} (h : RdS bs l) : (Rl.lgb l).length ≤ bs.length := h.2.length_le

theorem RdS.stop {bs z : List Int} {l : List Cm.Cv} {n : Nat} (h : RdS bs l) (hr : Fm.Rd (bs.drop (Rl.lgb l).length) z n 5) : Rl.Lg 0 bs l := by
 refine ⟨h.1, h.2, fun c hc hp => ?_⟩
 rcases hr with ⟨h0, _⟩ | ⟨_, _, _, h3⟩
 ·cases h0
 ·have := Rl.rec_small hc.1
  exact h3 (Rl.rec c) (by omega) hp

theorem rds_zero {bs z : List Int} {n : Nat} (hr : Fm.Rd bs z n 0) : z.length ≤ 131072 ∧ n = (Fm.frm z).length ∧ Fm.frm z <+: bs := by
 rcases hr with ⟨_, h1, h2, h3⟩ | ⟨h0, _⟩
 ·exact ⟨h1, by rw [h2, Fm.frm_len], h3⟩
 ·cases h0

theorem RdS.stopC {bs z : List Int} {l : List Cm.Cv} {n : Nat} {e k : Int} {ops : List Bm.Ov} (h : RdS bs l) (hr : Fm.Rd (bs.drop (Rl.lgb l).length) z n 0) (hc : Rn.Dc z e k ops 5) : Rl.Lg 0 bs l := by
 obtain ⟨_, _, h3⟩ := rds_zero hr
 refine ⟨h.1, h.2, fun c hg hp => ?_⟩
 have e1 : Rl.rec c = z := Fm.frm_one hp h3
 rcases hc with ⟨h0, _⟩ | ⟨_, _, _, _, h4⟩
 ·cases h0
 ·exact h4 c.e c.n c.l hg.1 e1

theorem RdS.stopT {bs z : List Int} {l : List Cm.Cv} {n : Nat} {e k : Int} {ops : List Bm.Ov} (h : RdS bs l) (hr : Fm.Rd (bs.drop (Rl.lgb l).length) z n 0) (hc : Rn.Dc z e k ops 0) (ht : ¬ e - 1 = Cm.lastN 0 l) : Rl.Lg 0 bs l := by
 obtain ⟨_, _, h3⟩ := rds_zero hr
 refine ⟨h.1, h.2, fun c hg hp => ?_⟩
 have e1 : Rl.rec c = z := Fm.frm_one hp h3
 rcases hc with ⟨_, h1, h2⟩ | ⟨h0, _⟩
 ·obtain ⟨a1, _, _⟩ := Rn.encR_one h1 hg.1 (bs := z) (h2 ▸ List.prefix_rfl) (e1 ▸ List.prefix_rfl)
  have := hg.2.1
  rw [a1] at this
  exact ht this
 ·cases h0

theorem RdS.next {bs z : List Int} {l : List Cm.Cv} {n : Nat} {e k : Int} {ops : List Bm.Ov} (h : RdS bs l) (hr : Fm.Rd (bs.drop (Rl.lgb l).length) z n 0) (hc : Rn.Dc z e k ops 0) (ht : e - 1 = Cm.lastN 0 l) :
  RdS bs (l ++ [⟨e, k, ops⟩]) ∧ (Rl.lgb (l ++ [⟨e, k, ops⟩])).length = (Rl.lgb l).length + n ∧ 1 ≤ n := by
 obtain ⟨_, h2, h3⟩ := rds_zero hr
 rcases hc with ⟨_, h1, h4⟩ | ⟨h0, _⟩
 ·have e1 : Rl.fr ⟨e, k, ops⟩ = Fm.frm z := by
   unfold Rl.fr Rl.rec
   rw [← h4]
  have e2 : Rl.lgb (l ++ [⟨e, k, ops⟩]) = Rl.lgb l ++ Fm.frm z := by rw [Rl.lgb_app, Rl.lgb_one, e1]
  refine ⟨⟨(Rl.good_snoc h.1).2 ⟨h1, ht⟩, ?_⟩, by rw [e2, List.length_append, h2], by rw [h2]; exact Fm.frm_pos _⟩
  rw [e2]
  exact Fm.pre_drop h.2 h3
 ·cases h0

theorem Rq.grow {base : Nat} {w w' : World} {l : List Cm.Cv} {v v' : Value} {rs : List Cw} {c : Cw} (h : Rq base w l v rs) (ho : OwnR 112 base w' v' (rs ++ [c])) (hk : KeepT 112 w w') (hc : OwnO 65 base w c.v c.l) (hg : Rl.Good 0 (l ++ [c.c])) : Rq base w' (l ++ [c.c]) v' (rs ++ [c]) := by
 refine ⟨ho, fun d hd => ?_, by unfold cvs; rw [List.map_append, ← h.is]; rfl, hg⟩
 rcases List.mem_append.1 hd with hd | hd
 ·exact (h.cop d hd).keepT hk (by decide)
 ·rw [List.mem_singleton.1 hd]
  exact hc.keepT hk (by decide)

set_option maxRecDepth 20000 in
set_option maxHeartbeats 4000000 in
theorem hscan_any (vb : Value) (bs : List Int) (w : World) (hb : Is .u8 w vb bs) (hl : bs.length ≤ 1000000000) :
  Calls Tryz.prog 30 #[vb] w fun E w' => ∃ (l : List Cm.Cv) (v : Value) (rs : List Cw), E = .returned (.tuple #[v, .int .i64 (Rl.lgb l).length]) ∧ Rq w.heap.size w' l v rs ∧ Below w.heap.size w w' ∧ Hid (Rl.Lg 0 bs l) := by
 have HB := hide hb
 obtain ⟨ba, bc, hvb, _, _⟩ := hb.shape
 have Q0 : Hid (RdS bs [] ∧ Rq w.heap.size w [] (.slice none 0 0) [] ∧ Below w.heap.size w w) := hide ⟨RdS.nil _, Rq.nil _ _, Below.refl _ _⟩
 clear hb
 subst hvb
 go_enter Tryz.func30, Tryz.ntmps30
 go_wp2
 go_loopw [2, 3] (fun lv gv wr => ∃ (l : List Cm.Cv) (n : Nat) (rs : List Cw), gv = .int .i64 n ∧ n = (Rl.lgb l).length ∧ Hid (RdS bs l ∧ Rq w.heap.size wr l lv rs ∧ Below w.heap.size w wr)) (fun _ gv _ => bs.length - (intOf gv).toNat)
 case atStart => exact ⟨[], 0, [], rfl, rfl, Q0⟩
 case round =>
  clear Q0
  obtain ⟨l, n, rs, rfl, hn, RS⟩ := hrel
  obtain ⟨sa, sn, sk, hsv⟩ : ∃ a n k, u2 = .slice a n k := by
   obtain ⟨a1, k1, h1, _⟩ := RS.out.2.1.row.row.shape
   exact ⟨a1, _, k1, h1⟩
  subst hsv
  have hle := RS.out.1.le
  have szr := RS.out.2.2.size
  have HN := hide hn
  rw [← hn] at hle
  obtain ⟨vs, hsl, isl⟩ := (HB.out.below RS.out.2.2).slice_l Tryz.elemB3 Tryz.sizeB3 n hle
  have HF := hide (fread_any vs _ wr isl (by rw [List.length_drop]; omega))
  clear isl hn
  go_wp2_with fail
  refine HF.out.mono ?_
  rintro E wa ⟨v1, z, k, e, rfl, own1, bel1, R⟩
  have sza := bel1.size
  have RA := hide (show RdS bs l ∧ Rq w.heap.size wa l (.slice sa sn sk) rs ∧ Below w.heap.size w wa from ⟨RS.out.1, RS.out.2.1.below bel1, RS.out.2.2.trans (bel1.mono szr)⟩)
  clear HF RS hsl
  have R' : Hid (Fm.Rd (bs.drop (Rl.lgb l).length) z k e) := hide (by rw [← HN.out]; exact R.out)
  clear R
  have R := R'
  clear R'
  have he : e = 0 ∨ e = 5 := by
   rcases R.out with h | h
   ·exact .inl h.1
   ·exact .inr h.1
  rcases he with rfl | rfl
  ·have hzl : z.length ≤ 131072 := (rds_zero R.out).1
   have HD := hide (hdec_any v1 z wa own1.is (by omega))
   obtain ⟨o1, k1, hv1, _, _⟩ := own1.is.shape
   subst hv1
   clear own1 bel1
   go_wp2_with fail
   refine HD.out.mono ?_
   rintro E wb ⟨ee, nn, g, vo, ops, rfl, ownc, hcr, bel2⟩
   have szb := bel2.size
   have hgg := Rn.dc_e hcr.out
   obtain ⟨oa, on, ok, hvo⟩ : ∃ a n k, vo = .slice a n k := by
    obtain ⟨a1, k1, h1, _⟩ := ownc.is.shape
    exact ⟨a1, _, k1, h1⟩
   subst hvo
   obtain ⟨wc, hwc, hwc2, szc, belc, bC, x0, x1, x2⟩ := new_step wb 112 (.int .i64 0) (.int .i64 0) (.slice none 0 0) (.int .i64 ee) (.int .i64 nn) (.slice oa on ok)
   have belac := bel2.trans (belc.mono szb)
   have RC := hide (show RdS bs l ∧ Rq w.heap.size wc l (.slice sa sn sk) rs ∧ Below w.heap.size w wc from ⟨RA.out.1, RA.out.2.1.below belac, RA.out.2.2.trans (belac.mono (by omega))⟩)
   have OC := hide (ownc.below belc)
   unfold cmv
   clear RA HD ownc bel2 belc belac
   rcases hgg with rfl | rfl
   ·have hgl := Rl.good_len RC.out.1.1
    have FO := hide (hfollows_any (.slice sa sn sk) rs ee nn (.slice oa on ok) wc RC.out.2.1.row.row RC.out.2.1.len_le ⟨_, _, _, rfl⟩ (by rw [RC.out.2.1.is]; exact hgl.2))
    rw [RC.out.2.1.is] at FO
    unfold cmv at FO
    obtain ⟨ans, hans⟩ : ∃ x, decide (ee - 1 = Cm.lastN 0 l) = x := ⟨_, rfl⟩
    rw [hans] at FO
    have HA := hide hans
    clear hans
    go_wp2_with fail
    refine FO.out.mono ?_
    rintro E wd ⟨rfl, beld⟩
    have szd := beld.size
    have RD := hide (show RdS bs l ∧ Rq w.heap.size wd l (.slice sa sn sk) rs ∧ Below w.heap.size w wd from ⟨RC.out.1, RC.out.2.1.below beld, RC.out.2.2.trans (beld.mono (by omega))⟩)
    have OD := hide (OC.out.below beld)
    have bD := (beld.block _ (blk_lt bC)).trans bC
    have y0 := blk_cell bD 0 rfl
    have y1 := blk_cell bD 1 rfl
    have y2 := blk_cell bD 2 rfl
    simp only [List.getElem_toArray, List.getElem_cons_zero, List.getElem_cons_succ] at y0 y1 y2
    clear FO RC OC beld bC bD x0 x1 x2
    cases ans with
    | false =>
     have G := hide (show Rq w.heap.size wd l (.slice sa sn sk) rs ∧ Below w.heap.size w wd ∧ Hid (Rl.Lg 0 bs l) from ⟨RD.out.2.1, RD.out.2.2, hide (RD.out.1.stopT R.out hcr.out (of_decide_eq_false HA.out))⟩)
     clear RD OD hcr
     go_wp2
     go_ret2
     exact ⟨l, .slice sa sn sk, rs, by rw [← HN.out]; rfl, G.out⟩
    | true =>
     obtain ⟨g1, g2, g3⟩ := RD.out.1.next R.out hcr.out (of_decide_eq_true HA.out)
     obtain ⟨we, hwe, sze, bele, owne⟩ := coms_step 112 wd #[.int .i64 ee, .int .i64 nn, .slice oa on ok] 1 [⟨ee, nn, .slice oa on ok, ops⟩] rfl rfl (by simp [maxLen])
     have RQE := RD.out.2.1.below bele
     have OE := hide (OD.out.below bele)
     have REE := hide RQE
     have hre := RQE.row
     have hze : w.heap.size ≤ we.heap.size := by omega
     have hlen : (rs.length + [(⟨ee, nn, .slice oa on ok, ops⟩ : Cw)].length) * 40 ≤ 140737488355328 := by have := RQE.len_le; simp; omega
     have HG := hide (show RdS bs (l ++ [⟨ee, nn, ops⟩]) ∧ (Rl.lgb (l ++ [⟨ee, nn, ops⟩])).length = n + k ∧ 1 ≤ k from ⟨g1, by rw [g2, HN.out], g3⟩)
     have hkb : n + k ≤ bs.length := by rw [← HG.out.2.1]; exact g1.le
     have hwr := wrap_i64_small ((n : Int) + (k : Int)) (by omega) (by omega)
     have BE := hide (RD.out.2.2.trans (bele.mono (by omega)))
     have rowe := owne.row
     have hone : ∀ c ∈ [(⟨ee, nn, .slice oa on ok, ops⟩ : Cw)], c.v.oneCell' = true := fun c hc => by rw [List.mem_singleton.1 hc]; rfl
     clear g1 g2 RQE RD OD bele owne hcr
     go_wp2_with (at_builtin; refine wpList_append_coms rfl (.tmp 35) (.tmp 37) 76 rfl 112 w.heap.size Tryz.underlying76 Tryz.info112 _ rs rfl hre _ [⟨ee, nn, .slice oa on ok, ops⟩] rfl rowe hone hlen hze ?_)
     rintro v7 w7 own7 bel7 kp7
     have RN := hide (show RdS bs (l ++ [⟨ee, nn, ops⟩]) ∧ Rq w.heap.size w7 (l ++ [⟨ee, nn, ops⟩]) v7 (rs ++ [⟨ee, nn, .slice oa on ok, ops⟩]) ∧ Below w.heap.size w w7 from ⟨HG.out.1, REE.out.grow own7 kp7 (OE.out.rebase (by omega)) HG.out.1.1, BE.out.trans bel7⟩)
     clear own7 kp7 bel7 hre rowe REE OE BE
     go_wp2
     go_roundw
     case rel => exact ⟨_, n + k, _, by go_num, HG.out.2.1.symm, RN⟩
     case measure => simp [intOf]; omega
   ·have G := hide (show Rq w.heap.size wc l (.slice sa sn sk) rs ∧ Below w.heap.size w wc ∧ Hid (Rl.Lg 0 bs l) from ⟨RC.out.2.1, RC.out.2.2, hide (RC.out.1.stopC R.out hcr.out)⟩)
    clear RC OC hcr
    go_wp2
    go_ret2
    exact ⟨l, .slice sa sn sk, rs, by rw [← HN.out]; rfl, G.out⟩
  ·have G := hide (show Rq w.heap.size wa l (.slice sa sn sk) rs ∧ Below w.heap.size w wa ∧ Hid (Rl.Lg 0 bs l) from ⟨RA.out.2.1, RA.out.2.2, hide (RA.out.1.stop R.out)⟩)
   obtain ⟨o1, k1, hv1, _, _⟩ := own1.is.shape
   subst hv1
   clear RA own1 bel1 R
   go_wp2
   go_ret2
   exact ⟨l, .slice sa sn sk, rs, by rw [← HN.out]; rfl, G.out⟩

section
variable {P : Program} {w : World} {ops : Array Oper} {rest : List Oper} {o : Oper} {a : Act} {Q : Exit → Act → World → Prop}

theorem wpList_append_comsB (hgd : o.guard = none) (s x : Operand) (t : TypeId)
  (ho : o.op = .call { callee := .builtin .append, args := #[s, x], argTypes := #[t, t] })
  (e : TypeId) (base : Nat) (ht : P.underlying t = some (.slice e)) (hinfo : (P.info? e).map (fun i => (i.zero, i.size, i.bytes)) = some (some (.agg #[.int .i64 0, .int .i64 0, .slice none 0 0]), 3, 40))
  (v : Value) (l : List Cw) (hs : a.eval s = v) (hown : OwnR e base w v l) (vx : Value) (m : List Cw) (hx : a.eval x = vx) (his : RowC w vx m) (hone : ∀ c ∈ m, c.v.oneCell' = true)
  (hlen : (l.length + m.length) * 40 ≤ 140737488355328) (hbase : base ≤ w.heap.size)
  (h : ∀ v' w', OwnR e base w' v' (l ++ m) → w.grownBy w' v.ownBlock → (v'.ownBlock = v.ownBlock ∨ v'.ownBlock = some w.heap.size) → wpList P ops Q rest (a.put o.dst v') w') : wpList P ops Q (o :: rest) a w := by
 obtain ⟨v', w', hr, h1, h2, h3⟩ := run_append_coms_at (P := P) (w := w) t o.type e base ht hinfo v l hown vx m his hone hlen hbase
 refine wpList_plain hgd fun _ hK => ?_
 unfold Oper.wp execOp
 simp only [ho, resolve, invoke, builtin, Sem.run_bind, Sem.run_pure, Result.andThen_ok, List.map_toArray, List.map_cons, List.map_nil, hs, hx, hr]
 exact hK _ _ (h v' w' h1 h2 h3)

end

end Go.Proofs.YtmmfakpphjjjfaaGreat

/- The document's runs: a file is trimmed, runs are read out of bytes. -/
namespace Go.Proofs.YtmmfakpphjjjfaaGreat
open Go.RowKit
open Bm (Ov)
set_option linter.unusedVariables false

set_option maxHeartbeats 1000000 in
theorem trimR_two (q : Nat) (F : Nat → Prop) (w : World) (st : Dm.Ds) (n : Nat) (h : Dk q F w st) (hs : Big 100000000 800000 st) :
  Calls Tryz.prog 34 #[.pointer (some ⟨q, 0, none⟩), .int .i64 2, .int .i64 n] w fun E w' => E = .returned (.int .i64 (Rl.trm st n).1) ∧ DStep q F w w' (Rl.trm st n).2 := by
 have HH := hide (holdsR_any q F w st 2 h (by decide) (Nat.le_trans (hs.1.1 2) (by decide)) (Nat.le_trans hs.1.2.1 (by decide)))
 have HD := hide h
 have hs2 := big_cut hs 2 n
 have HC : Hid (∀ W, Below w.heap.size w W → Calls Tryz.prog 74 #[.pointer (some ⟨q, 0, none⟩), .int .i64 2, .int .i64 n] W fun E w' => E = .returned (.int .i64 (Dm.cutD st 2 n).1) ∧ DStep q F w w' (Dm.cutD st 2 n).2) := hide fun W hW => by
  refine (cutR_any q F W st 2 n (h.below hW) (fun f => Nat.le_trans (hs.1.1 f) (by decide)) (Nat.le_trans hs.1.2.1 (by decide)) hs.2 (Nat.lt_of_le_of_lt hs.1.2.2 (by decide))).mono ?_
  rintro E w' ⟨rfl, k⟩
  exact ⟨rfl, DStep.pre hW k⟩
 have HS : Hid (∀ W, DStep q F w W (Dm.cutD st 2 n).2 → Calls Tryz.prog 75 #[.pointer (some ⟨q, 0, none⟩)] W fun E w' => E = .returned (.int .i64 (Dm.sync (Dm.cutD st 2 n).2).1) ∧ DStep q F w w' (Dm.sync (Dm.cutD st 2 n).2).2) := hide fun W hW => by
  obtain ⟨F2, k1, k2, k3⟩ := hW
  refine (syncR_any q F2 W _ k1 (fun f => Nat.le_trans (hs2.1.1 f) (by decide)) (Nat.le_trans hs2.1.2.1 (by decide)) hs2.2 (Nat.lt_of_le_of_lt hs2.1.2.2 (by decide))).mono ?_
  rintro E w' ⟨rfl, k⟩
  exact ⟨rfl, DStep.trans k2 k3 k⟩
 have eh : Dm.hold 2 (st.sure 2) st.wait = Rl.hld st := rfl
 rw [eh] at HH
 unfold Rl.trm
 generalize hl : (Rl.hld st).length = z at *
 have HZ := hide hl
 clear h hs hs2 hl eh
 by_cases hz : z = n
 ·rw [if_pos hz]
  have hb : ((z : Int) == (n : Int)) = true := by simp [hz]
  go_enter Tryz.func34, Tryz.ntmps34
  go_wp2_with fail
  refine HH.out.mono ?_
  rintro E w1 ⟨v, rfl, own, bel⟩
  obtain ⟨a, c, hv, _, _⟩ := own.is.shape
  rw [HZ.out] at hv
  subst hv
  have DS := hide (DStep.same HD.out bel)
  clear own bel HH HC HS
  go_wp2
  go_ret
  exact ⟨rfl, DS.out⟩
 ·rw [if_neg hz]
  have hb : ((z : Int) == (n : Int)) = false := by simp; omega
  generalize Dm.cutD st 2 n = x at *
  obtain ⟨e, st2⟩ := x
  simp only at *
  generalize Dm.sync st2 = y at *
  obtain ⟨f, st3⟩ := y
  simp only at *
  by_cases he : e = 0
  ·subst he
   by_cases hf : f = 0
   ·subst hf
    simp only [ne_eq, not_true, if_false]
    go_enter Tryz.func34, Tryz.ntmps34
    go_wp2_with fail
    refine HH.out.mono ?_
    rintro E w1 ⟨v, rfl, own, bel⟩
    obtain ⟨a, c, hv, _, _⟩ := own.is.shape
    rw [HZ.out] at hv
    subst hv
    have HC1 := hide (HC.out w1 bel)
    clear own bel HH HC
    go_wp2_with fail
    refine HC1.out.mono ?_
    rintro E w2 ⟨rfl, D2⟩
    have HS1 := hide (HS.out w2 D2)
    clear D2 HS HC1
    go_wp2_with fail
    refine HS1.out.mono ?_
    rintro E w3 ⟨rfl, D3⟩
    have J := hide D3
    go_wp2
    go_ret
    exact ⟨rfl, J.out⟩
   ·have hfb : (f != 0) = true := by simp [hf]
    simp only [ne_eq, not_true, if_false, hf, not_false_eq_true, if_true]
    go_enter Tryz.func34, Tryz.ntmps34
    go_wp2_with fail
    refine HH.out.mono ?_
    rintro E w1 ⟨v, rfl, own, bel⟩
    obtain ⟨a, c, hv, _, _⟩ := own.is.shape
    rw [HZ.out] at hv
    subst hv
    have HC1 := hide (HC.out w1 bel)
    clear own bel HH HC
    go_wp2_with fail
    refine HC1.out.mono ?_
    rintro E w2 ⟨rfl, D2⟩
    have HS1 := hide (HS.out w2 D2)
    clear D2 HS HC1
    go_wp2_with fail
    refine HS1.out.mono ?_
    rintro E w3 ⟨rfl, D3⟩
    have J := hide D3
    go_wp2
    go_ret
    exact ⟨rfl, J.out⟩
  ·have heb : (e != 0) = true := by simp [he]
   simp only [ne_eq, he, not_false_eq_true, if_true]
   go_enter Tryz.func34, Tryz.ntmps34
   go_wp2_with fail
   refine HH.out.mono ?_
   rintro E w1 ⟨v, rfl, own, bel⟩
   obtain ⟨a, c, hv, _, _⟩ := own.is.shape
   rw [HZ.out] at hv
   subst hv
   have HC1 := hide (HC.out w1 bel)
   clear own bel HH HC
   go_wp2_with fail
   refine HC1.out.mono ?_
   rintro E w2 ⟨rfl, D2⟩
   have J := hide D2
   clear HS HC1
   go_wp2
   go_ret
   exact ⟨rfl, J.out⟩

set_option maxRecDepth 20000 in
set_option maxHeartbeats 4000000 in
theorem xscan_any (vb : Value) (bs : List Int) (w : World) (hb : Is .u8 w vb bs) (hl : bs.length ≤ 1000000000) :
  Calls Tryz.prog 32 #[vb] w fun E w' => ∃ (l : List Cm.Cv) (v : Value) (rs : List Cw), E = .returned (.tuple #[v, .int .i64 (Rl.lgb l).length]) ∧ Rq w.heap.size w' l v rs ∧ Below w.heap.size w w' ∧ Hid (Rl.Lg 0 bs l) := by
 have HB := hide hb
 obtain ⟨ba, bc, hvb, _, _⟩ := hb.shape
 have Q0 : Hid (RdS bs [] ∧ Rq w.heap.size w [] (.slice none 0 0) [] ∧ Below w.heap.size w w) := hide ⟨RdS.nil _, Rq.nil _ _, Below.refl _ _⟩
 clear hb
 subst hvb
 go_enter Tryz.func32, Tryz.ntmps32
 go_wp2
 go_loopw [4, 5, 6] (fun lv gv ev wr => ∃ (l : List Cm.Cv) (n : Nat) (rs : List Cw) (z : Int), gv = .int .i64 n ∧ n = (Rl.lgb l).length ∧ ev = .int .i64 z ∧ Hid (z = Cm.lastN 0 l) ∧ Hid (RdS bs l ∧ Rq w.heap.size wr l lv rs ∧ Below w.heap.size w wr)) (fun _ gv _ _ => bs.length - (intOf gv).toNat)
 case atStart => exact ⟨[], 0, [], 0, rfl, rfl, rfl, hide rfl, Q0⟩
 case round =>
  clear Q0
  obtain ⟨l, n, rs, ze, rfl, hn, rfl, HZE, RS⟩ := hrel
  obtain ⟨sa, sn, sk, hsv⟩ : ∃ a n k, u4 = .slice a n k := by
   obtain ⟨a1, k1, h1, _⟩ := RS.out.2.1.row.row.shape
   exact ⟨a1, _, k1, h1⟩
  subst hsv
  have hle := RS.out.1.le
  have szr := RS.out.2.2.size
  have HN := hide hn
  rw [← hn] at hle
  obtain ⟨vs, hsl, isl⟩ := (HB.out.below RS.out.2.2).slice_l Tryz.elemB3 Tryz.sizeB3 n hle
  have HF := hide (freadR_any vs _ wr isl (by rw [List.length_drop]; omega))
  clear isl hn
  go_wp2_with fail
  refine HF.out.mono ?_
  rintro E wa ⟨v1, z, k, e, rfl, own1, bel1, R⟩
  have sza := bel1.size
  have RA := hide (show RdS bs l ∧ Rq w.heap.size wa l (.slice sa sn sk) rs ∧ Below w.heap.size w wa from ⟨RS.out.1, RS.out.2.1.below bel1, RS.out.2.2.trans (bel1.mono szr)⟩)
  clear HF RS hsl
  have R' : Hid (Fm.Rd (bs.drop (Rl.lgb l).length) z k e) := hide (by rw [← HN.out]; exact R.out)
  clear R
  have R := R'
  clear R'
  have he : e = 0 ∨ e = 5 := by
   rcases R.out with h | h
   ·exact .inl h.1
   ·exact .inr h.1
  rcases he with rfl | rfl
  ·have hzl : z.length ≤ 131072 := (rds_zero R.out).1
   have HD := hide (hdecR_any v1 z wa own1.is (by omega))
   obtain ⟨o1, k1, hv1, _, _⟩ := own1.is.shape
   subst hv1
   clear own1 bel1
   go_wp2_with fail
   refine HD.out.mono ?_
   rintro E wb ⟨ee, nn, g, vo, ops, rfl, ownc, hcr, bel2⟩
   have szb := bel2.size
   have hgg := Rn.dc_e hcr.out
   obtain ⟨oa, on, ok, hvo⟩ : ∃ a n k, vo = .slice a n k := by
    obtain ⟨a1, k1, h1, _⟩ := ownc.is.shape
    exact ⟨a1, _, k1, h1⟩
   subst hvo
   obtain ⟨wc, hwc, hwc2, szc, belc, bC, x0, x1, x2⟩ := new_step wb 112 (.int .i64 0) (.int .i64 0) (.slice none 0 0) (.int .i64 ee) (.int .i64 nn) (.slice oa on ok)
   have belac := bel2.trans (belc.mono szb)
   have RC := hide (show RdS bs l ∧ Rq w.heap.size wc l (.slice sa sn sk) rs ∧ Below w.heap.size w wc from ⟨RA.out.1, RA.out.2.1.below belac, RA.out.2.2.trans (belac.mono (by omega))⟩)
   have OC := hide (ownc.below belc)
   have HLT : Hid (∀ g, QB (.slice sa sn sk) rs g → g < wb.heap.size) := hide fun g hg => by have := RA.out.2.1.lt g hg; omega
   unfold cmv
   clear RA HD ownc bel2 belac
   rcases hgg with rfl | rfl
   ·have hgl := Rl.good_len RC.out.1.1
    have hee : 1 ≤ ee ∧ ee ≤ 1048576 := by
     rcases hcr.out with ⟨_, h1, _⟩ | ⟨h0, _⟩
     ·obtain ⟨_, a1, a2, a3, _⟩ := Rn.chk_zero h1
      omega
     ·cases h0
    have hwe : IntKind.i64.wrap (ee - 1) = ee - 1 := wrap_i64_small _ (by omega) (by omega)
    by_cases hord : ee - 1 = ze
    ·have hob : (ee - 1 != ze) = false := by simp [hord]
     obtain ⟨g1, g2, g3⟩ := RC.out.1.next R.out hcr.out (by rw [← HZE.out]; exact hord)
     obtain ⟨we, hwe', sze, bele, owne⟩ := coms_step 112 wc #[.int .i64 ee, .int .i64 nn, .slice oa on ok] 1 [⟨ee, nn, .slice oa on ok, ops⟩] rfl rfl (by simp [maxLen])
     have RQE := RC.out.2.1.below bele
     have OE := hide (OC.out.below bele)
     have REE := hide RQE
     have hre := RQE.row
     have hze : w.heap.size ≤ we.heap.size := by omega
     have hlen : (rs.length + [(⟨ee, nn, .slice oa on ok, ops⟩ : Cw)].length) * 40 ≤ 140737488355328 := by have := RQE.len_le; simp; omega
     have HG := hide (show RdS bs (l ++ [⟨ee, nn, ops⟩]) ∧ (Rl.lgb (l ++ [⟨ee, nn, ops⟩])).length = n + k ∧ 1 ≤ k from ⟨g1, by rw [g2, HN.out], g3⟩)
     have hkb : n + k ≤ bs.length := by rw [← HG.out.2.1]; exact g1.le
     have hwr := wrap_i64_small ((n : Int) + (k : Int)) (by omega) (by omega)
     have BE := hide (RC.out.2.2.trans (bele.mono (by omega)))
     have bCe := (bele.block wb.heap.size (blk_lt bC)).trans bC
     have rowe := owne.row
     have hone : ∀ c ∈ [(⟨ee, nn, .slice oa on ok, ops⟩ : Cw)], c.v.oneCell' = true := fun c hc => by rw [List.mem_singleton.1 hc]; rfl
     have HOR := hide hord
     have BCE := hide bCe
     have HQL : Hid (∀ g, (Value.slice sa sn sk).ownBlock = some g → g < wb.heap.size) := hide fun g hg => HLT.out g (.inl hg)
     clear g1 g2 RQE RC OC bele owne hcr belc bC hord bCe szc sze
     go_wp2_with (at_builtin; refine wpList_append_comsB rfl (.tmp 39) (.tmp 41) 76 rfl 112 w.heap.size Tryz.underlying76 Tryz.info112 _ rs rfl hre _ [⟨ee, nn, .slice oa on ok, ops⟩] rfl rowe hone hlen hze ?_)
     rintro v7 w7 own7 gr7 at7
     have kp7 : KeepT 112 we w7 := KeepT.of_row hre gr7
     have bel7 : Below w.heap.size we w7 := (Below.refl _ _).grown gr7 hze fun k' hk => (World.ownsRow.lt hre k' hk).1
     have RN := hide (show RdS bs (l ++ [⟨ee, nn, ops⟩]) ∧ Rq w.heap.size w7 (l ++ [⟨ee, nn, ops⟩]) v7 (rs ++ [⟨ee, nn, .slice oa on ok, ops⟩]) ∧ Below w.heap.size w w7 from ⟨HG.out.1, REE.out.grow own7 kp7 (OE.out.rebase (by omega)) HG.out.1.1, BE.out.trans bel7⟩)
     have b7 := (gr7.block wb.heap.size (blk_lt BCE.out) fun e => by have := HQL.out _ e.symm; omega).trans BCE.out
     have y1 := blk_cell b7 1 rfl
     simp only [List.getElem_toArray, List.getElem_cons_zero, List.getElem_cons_succ] at y1
     have HZ7 : Hid (nn = Cm.lastN 0 (l ++ [⟨ee, nn, ops⟩])) := hide (Rl.last_snoc l ⟨ee, nn, ops⟩ 0).symm
     obtain ⟨xa, xn, xk, hx7⟩ : ∃ a n k, v7 = .slice a n k := by
      obtain ⟨a1, k1, h1, _⟩ := own7.row.shape
      exact ⟨a1, _, k1, h1⟩
     subst hx7
     clear own7 kp7 bel7 gr7 at7 b7 hre rowe REE OE BE hlen x0 x1 x2 hwc hwc2 hwe'
     go_wp2
     go_roundw
     case rel => exact ⟨_, n + k, _, nn, by go_num, HG.out.2.1.symm, rfl, HZ7, RN⟩
     case measure => simp [intOf]; omega
    ·have hob : (ee - 1 != ze) = true := by simpa using hord
     have G := hide (show Rq w.heap.size wc l (.slice sa sn sk) rs ∧ Below w.heap.size w wc ∧ Hid (Rl.Lg 0 bs l) from ⟨RC.out.2.1, RC.out.2.2, hide (RC.out.1.stopT R.out hcr.out (by rw [← HZE.out]; exact hord))⟩)
     clear RC OC hcr belc bC hord
     go_wp2
     go_ret2
     exact ⟨l, .slice sa sn sk, rs, by rw [← HN.out]; rfl, G.out⟩
   ·have G := hide (show Rq w.heap.size wc l (.slice sa sn sk) rs ∧ Below w.heap.size w wc ∧ Hid (Rl.Lg 0 bs l) from ⟨RC.out.2.1, RC.out.2.2, hide (RC.out.1.stopC R.out hcr.out)⟩)
    clear RC OC hcr belc bC
    go_wp2
    go_ret2
    exact ⟨l, .slice sa sn sk, rs, by rw [← HN.out]; rfl, G.out⟩
  ·have G := hide (show Rq w.heap.size wa l (.slice sa sn sk) rs ∧ Below w.heap.size w wa ∧ Hid (Rl.Lg 0 bs l) from ⟨RA.out.2.1, RA.out.2.2, hide (RA.out.1.stop R.out)⟩)
   obtain ⟨o1, k1, hv1, _, _⟩ := own1.is.shape
   subst hv1
   clear RA own1 bel1 R
   go_wp2
   go_ret2
   exact ⟨l, .slice sa sn sk, rs, by rw [← HN.out]; rfl, G.out⟩

end Go.Proofs.YtmmfakpphjjjfaaGreat

/- The contract of the document's Encode of a run. -/
namespace Go.Proofs.YtmmfakpphjjjfaaGreat
open Go.RowKit
open Bm (Ov)
set_option linter.unusedVariables false

set_option maxRecDepth 20000 in
set_option maxHeartbeats 2000000 in
theorem hencR_any (e n : Int) (v : Value) (l : List Ov) (w : World) (h : IsO w v l) (hf : FitO l) (hl : l.length ≤ 140737488355328) :
  Calls Tryz.prog 135 #[cmv e n v] w fun E w' => ∃ vb, E = .returned (.tuple #[vb, .int .i64 (Rn.chk e n l)]) ∧ Own .u8 5 w.heap.size w' vb (Rn.out e n l) ∧ Below w.heap.size w w' := by
 obtain ⟨w1, hw1, sz1, bel1, hB⟩ := blk_step w #[.int .i64 e, .int .i64 n, v] 112
 have c0 := blk_cell hB 0 rfl
 have c1 := blk_cell hB 1 rfl
 have c2 := blk_cell hB 2 rfl
 have HM := hide (hcheckR_any e n v l w1 (h.below bel1) hf hl)
 have HFULL := hide fun (h0 : 0 < l.length) => h.full h0
 unfold cmv at HM ⊢
 obtain ⟨ao, cap, rfl, _, _⟩ := h.shape
 obtain ⟨ch, hch⟩ : ∃ x, Rn.chk e n l = x := ⟨_, rfl⟩
 rw [hch] at HM ⊢
 have HA := hide hch
 have HF := hide hf
 obtain ⟨m, hmm⟩ : ∃ m, l.length = m := ⟨_, rfl⟩
 rw [hmm] at HFULL hl c2 hw1 HM ⊢
 have HN := hide hmm
 clear h hf hch hB hmm
 go_enter Tryz.func135, Tryz.ntmps135
 go_wp2_with fail
 refine HM.out.mono ?_
 rintro E w2 ⟨rfl, bel2⟩
 have sz2 := bel2.size
 have bel02 := bel1.trans (bel2.mono bel1.size)
 have CE : Hid (∀ W, Below w2.heap.size w2 W → W.cell? ⟨w.heap.size, 0, none⟩ = some (.int .i64 e) ∧ W.cell? ⟨w.heap.size, 1, none⟩ = some (.int .i64 n) ∧ W.cell? ⟨w.heap.size, 2, none⟩ = some (.slice ao m cap)) := hide fun W hb =>
  ⟨(hb.cell (p := ⟨w.heap.size, 0, none⟩) (show w.heap.size < w2.heap.size by omega)).trans ((bel2.cell (p := ⟨w.heap.size, 0, none⟩) (show w.heap.size < w1.heap.size by omega)).trans c0), (hb.cell (p := ⟨w.heap.size, 1, none⟩) (show w.heap.size < w2.heap.size by omega)).trans ((bel2.cell (p := ⟨w.heap.size, 1, none⟩) (show w.heap.size < w1.heap.size by omega)).trans c1),
   (hb.cell (p := ⟨w.heap.size, 2, none⟩) (show w.heap.size < w2.heap.size by omega)).trans ((bel2.cell (p := ⟨w.heap.size, 2, none⟩) (show w.heap.size < w1.heap.size by omega)).trans c2)⟩
 obtain ⟨d0, d1, d2⟩ := CE.out w2 (Below.refl _ _)
 clear c0 c1 c2 HM bel2
 by_cases h0 : ch = 0
 ·subst h0
  have HZ := hide (Rn.chk_zero HA.out)
  obtain ⟨g1, g2, g3, g4, _⟩ := HZ.out
  rw [HN.out] at g1
  have hml : (m : Int) ≤ 1024 := by omega
  have HNM := hide (fun k => nmb_len (f := e) (u := n) (m := m) (by omega) g4 g1 k)
  go_wp2_with fail
  refine (putR_any (.slice none 0 0) [] e _ (Is.nil _ _) (by simp) (by omega) (by omega)).mono ?_
  rintro E w3 ⟨v3, rfl, own3, bel3⟩
  rw [List.nil_append] at own3
  have sz3 := bel3.size
  clear d0 d1 d2
  obtain ⟨d0, d1, d2⟩ := CE.out w3 bel3
  have q1 := HNM.out 1
  unfold nmb at q1
  go_wp2_with fail
  refine (putR_any v3 _ n _ own3.is (by omega) (by omega) (by omega)).mono ?_
  rintro E w4 ⟨v4, rfl, own4, bel4⟩
  have bel24 := bel3.trans (bel4.mono sz3)
  have sz4 := bel24.size
  clear d0 d1 d2 own3 bel3 bel4 q1
  obtain ⟨d0, d1, d2⟩ := CE.out w4 bel24
  have q2 := HNM.out 2
  unfold nmb at q2
  go_wp2_with fail
  refine (putR_any v4 _ m _ own4.is (by omega) (by omega) (by omega)).mono ?_
  rintro E w5 ⟨v5, rfl, own5, bel5⟩
  have bel25 := bel24.trans (bel5.mono sz4)
  have sz5 := bel5.size
  have own6 : Own .u8 5 w.heap.size w5 v5 (nmb e n m 3) := own5.rebase (base' := w.heap.size) (by omega)
  clear d0 d1 d2 own4 own5 bel5 bel24 q2
  have hq3 := HNM.out 3
  go_wp2
  go_loopw [5, 6] (fun bb kk wr => ∃ k : Nat, k ≤ m ∧ kk = .int .i64 k ∧ Own .u8 5 w.heap.size wr bb (nmb e n m 3 ++ Rn.ens (l.take k)) ∧ Below w2.heap.size w2 wr) (fun _ kk _ => m - (intOf kk).toNat)
  case atStart => exact ⟨0, by omega, rfl, by simpa [Rn.ens] using own6, bel25⟩
  case round =>
   obtain ⟨k, hk, rfl, ownk, belk⟩ := hrel
   have szk := belk.size
   have bel := bel02.trans (belk.mono bel02.size)
   have sz := bel.size
   obtain ⟨x0, x1, x2⟩ := CE.out wr belk
   by_cases hlt : k < m
   ·obtain ⟨o, ho⟩ : ∃ o, l[k]? = some o := ⟨l[k]'(by have := HN.out; omega), by rw [List.getElem?_eq_getElem]⟩
    obtain ⟨b1, o1, cq, hvx, _, _, hB, hcell⟩ := HFULL.out (by omega)
    simp only [Value.slice.injEq, true_and] at hvx
    obtain ⟨rfl, rfl⟩ := hvx
    obtain ⟨c0, c1, c2⟩ := hcell k o ho
    have d0 := (bel.cell (p := ⟨b1, o1 + k * 3, none⟩) hB).trans c0
    have d1 := (bel.cell (p := ⟨b1, o1 + k * 3 + 1, none⟩) hB).trans c1
    have d2 := (bel.cell (p := ⟨b1, o1 + k * 3 + 2, none⟩) hB).trans c2
    have HO := hide ho
    clear c0 c1 c2 ho hcell
    have hlt' : (k : Int) < m := by omega
    obtain ⟨hk1, hv1⟩ := HF.out o (List.mem_of_getElem? HO.out)
    have hoc : o.c = 0 := Rn.may_c HZ.out.2.2.2.2 o (List.mem_of_getElem? HO.out)
    have hle2 : (Rn.ens (l.take k)).length ≤ 51 * 1024 := by
     have := Rn.ens_le (l := l.take k) fun q hq => Rn.may_c HZ.out.2.2.2.2 q (List.mem_of_mem_take hq)
     rw [List.length_take] at this
     omega
    have isk := ownk.is
    clear ownk
    go_wp2_with fail
    refine (oappR_any _ _ o.p o.k o.v _ isk (by rw [List.length_append]; omega) hk1 hv1).mono ?_
    rintro E w7 ⟨v7, rfl, own7, bel7⟩
    have hok : Om.chk o.p o.k.data.toList o.v.data.toList = 0 := hoc
    rw [Om.appd_ok hok, List.append_assoc] at own7
    rw [hok]
    have own8 : Own .u8 5 w.heap.size w7 v7 (nmb e n m 3 ++ Rn.ens (l.take (k + 1))) := by
     rw [ens_next HO.out]
     exact own7.rebase (by omega)
    have bel8 := belk.trans (bel7.mono szk)
    clear own7 bel7 isk hok hoc x0 x1 x2 d0 d1 d2
    go_wp2
    go_roundw
    case rel => exact ⟨k + 1, by omega, by go_num, own8, bel8⟩
    case measure => simp [intOf]; omega
   ·have hlt' : ¬ (k : Int) < m := by omega
    have OW : Hid (Own .u8 5 w.heap.size wr u5 (Rn.out e n l)) := hide (by
     rw [Rn.out_ok HA.out, ← nmb_all, HN.out]
     rw [List.take_of_length_le (by have := HN.out; omega)] at ownk
     exact ownk)
    clear ownk
    go_wp2
    go_ret2
    exact ⟨_, rfl, OW.out, bel⟩
 ·have hne : (ch != 0) = true := by simp [h0]
  have HO : Hid (Rn.out e n l = []) := hide (Rn.out_no (by rw [HA.out]; exact h0))
  go_wp2
  go_ret2
  exact ⟨_, rfl, by rw [HO.out]; exact Own.nil _ _ _ _, bel02⟩

end Go.Proofs.YtmmfakpphjjjfaaGreat
