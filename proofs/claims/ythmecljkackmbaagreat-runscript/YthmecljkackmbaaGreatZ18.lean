/- Texts of one layer, one behind the other. -/
import Derived.Test.YthmecljkackmbaaGreatZ17
import Derived.Deep.RegionHeld3
import Derived.Test.YthmecljkackmbaaGreatZ11
import Derived.Lib.Bytealg
import Derived.Test.YthmecljkackmbaaGreatZR
/- Runs are read out of a file's bytes; bytes are put behind the file. -/
namespace Go.Proofs.YthmecljkackmbaaGreat
open Go.RowKit
set_option linter.unusedVariables false

/-- Read so far. -/
def RdS (bs : List Int) (l : List Cm.Cv) : Prop := Rl.Good 0 l ∧ Rl.lgb l <+: bs

theorem RdS.nil (bs : List Int) : RdS bs [] := ⟨trivial, List.nil_prefix⟩

theorem RdS.le {bs : List Int} {l : List Cm.Cv} (h : RdS bs l) : (Rl.lgb l).length ≤ bs.length := h.2.length_le

theorem RdS.stop {bs z : List Int} {l : List Cm.Cv} {n : Nat} (h : RdS bs l) (hr : Fm.Rd (bs.drop (Rl.lgb l).length) z n 5) : Rl.Lg 0 bs l := by
  refine ⟨h.1, h.2, fun c hc hp => ?_⟩
  rcases hr with ⟨h0, _⟩ | ⟨_, _, _, h3⟩
  · cases h0
  · have := Rl.rec_small hc.1
    exact h3 (Rl.rec c) (by omega) hp

theorem rds_zero {bs z : List Int} {n : Nat} (hr : Fm.Rd bs z n 0) : z.length ≤ 131072 ∧ n = (Fm.frm z).length ∧ Fm.frm z <+: bs := by
  rcases hr with ⟨_, h1, h2, h3⟩ | ⟨h0, _⟩
  · exact ⟨h1, by rw [h2, Fm.frm_len], h3⟩
  · cases h0

theorem RdS.stopC {bs z : List Int} {l : List Cm.Cv} {n : Nat} {e k : Int} {ops : List Bm.Ov} (h : RdS bs l) (hr : Fm.Rd (bs.drop (Rl.lgb l).length) z n 0) (hc : Rn.Dc z e k ops 5) : Rl.Lg 0 bs l := by
  obtain ⟨_, _, h3⟩ := rds_zero hr
  refine ⟨h.1, h.2, fun c hg hp => ?_⟩
  have e1 : Rl.rec c = z := Fm.frm_one hp h3
  rcases hc with ⟨h0, _⟩ | ⟨_, _, _, _, h4⟩
  · cases h0
  · exact h4 c.e c.n c.l hg.1 e1

theorem RdS.stopT {bs z : List Int} {l : List Cm.Cv} {n : Nat} {e k : Int} {ops : List Bm.Ov} (h : RdS bs l) (hr : Fm.Rd (bs.drop (Rl.lgb l).length) z n 0) (hc : Rn.Dc z e k ops 0) (ht : ¬ e - 1 = Cm.lastN 0 l) : Rl.Lg 0 bs l := by
  obtain ⟨_, _, h3⟩ := rds_zero hr
  refine ⟨h.1, h.2, fun c hg hp => ?_⟩
  have e1 : Rl.rec c = z := Fm.frm_one hp h3
  rcases hc with ⟨_, h1, h2⟩ | ⟨h0, _⟩
  · obtain ⟨a1, _, _⟩ := Rn.encR_one h1 hg.1 (bs := z) (h2 ▸ List.prefix_rfl) (e1 ▸ List.prefix_rfl)
    have := hg.2.1
    rw [a1] at this
    exact ht this
  · cases h0

theorem RdS.next {bs z : List Int} {l : List Cm.Cv} {n : Nat} {e k : Int} {ops : List Bm.Ov} (h : RdS bs l) (hr : Fm.Rd (bs.drop (Rl.lgb l).length) z n 0) (hc : Rn.Dc z e k ops 0) (ht : e - 1 = Cm.lastN 0 l) :
    RdS bs (l ++ [⟨e, k, ops⟩]) ∧ (Rl.lgb (l ++ [⟨e, k, ops⟩])).length = (Rl.lgb l).length + n ∧ 1 ≤ n := by
  obtain ⟨_, h2, h3⟩ := rds_zero hr
  rcases hc with ⟨_, h1, h4⟩ | ⟨h0, _⟩
  · have e1 : Rl.fr ⟨e, k, ops⟩ = Fm.frm z := by
      unfold Rl.fr Rl.rec
      rw [← h4]
    have e2 : Rl.lgb (l ++ [⟨e, k, ops⟩]) = Rl.lgb l ++ Fm.frm z := by rw [Rl.lgb_app, Rl.lgb_one, e1]
    refine ⟨⟨(Rl.good_snoc h.1).2 ⟨h1, ht⟩, ?_⟩, by rw [e2, List.length_append, h2], by rw [h2]; exact Fm.frm_pos _⟩
    rw [e2]
    exact Fm.pre_drop h.2 h3
  · cases h0

/-- A run more in a list of them. -/
theorem Rq.grow {base : Nat} {w w' : World} {l : List Cm.Cv} {v v' : Value} {rs : List Cw} {c : Cw} (h : Rq base w l v rs) (ho : OwnR 93 base w' v' (rs ++ [c])) (hk : KeepT 93 w w') (hc : OwnO 81 base w c.v c.l) (hg : Rl.Good 0 (l ++ [c.c])) : Rq base w' (l ++ [c.c]) v' (rs ++ [c]) := by
  refine ⟨ho, fun d hd => ?_, by unfold cvs; rw [List.map_append, ← h.is]; rfl, hg⟩
  rcases List.mem_append.1 hd with hd | hd
  · exact (h.cop d hd).keepT hk (by decide)
  · rw [List.mem_singleton.1 hd]
    exact hc.keepT hk (by decide)

set_option maxRecDepth 20000 in
set_option maxHeartbeats 4000000 in
theorem hscan_any (vb : Value) (bs : List Int) (w : World) (hb : Is .u8 w vb bs) (hl : bs.length ≤ 1000000000) :
    Calls Tryz.prog 61 #[vb] w fun E w' => ∃ (l : List Cm.Cv) (v : Value) (rs : List Cw), E = .returned (.tuple #[v, .int .i64 (Rl.lgb l).length]) ∧ Rq w.heap.size w' l v rs ∧ Below w.heap.size w w' ∧ Hid (Rl.Lg 0 bs l) := by
  have HB := hide hb
  obtain ⟨ba, bc, hvb, _, _⟩ := hb.shape
  have Q0 : Hid (RdS bs [] ∧ Rq w.heap.size w [] (.slice none 0 0) [] ∧ Below w.heap.size w w) := hide ⟨RdS.nil _, Rq.nil _ _, Below.refl _ _⟩
  clear hb
  subst hvb
  go_enter Tryz.func61, Tryz.ntmps61
  go_wp2
  go_loopw [2, 3] (fun lv gv wr => ∃ (l : List Cm.Cv) (n : Nat) (rs : List Cw), gv = .int .i64 n ∧ n = (Rl.lgb l).length ∧ Hid (RdS bs l ∧ Rq w.heap.size wr l lv rs ∧ Below w.heap.size w wr)) (fun _ gv _ => bs.length - (intOf gv).toNat)
  case atStart => exact ⟨[], 0, [], rfl, rfl, Q0⟩
  case round =>
    clear Q0
    obtain ⟨l, n, rs, rfl, hn, RS⟩ := hrel
    obtain ⟨sa, sn, sk, hsv⟩ : ∃ a n k, u2 = .slice a n k := by
      obtain ⟨a1, k1, h1, _⟩ := RS.out.2.1.row.row.shape
      exact ⟨a1, _, k1, h1⟩
    subst hsv
    have hle := RS.out.1.le
    have szr := RS.out.2.2.size
    have HN := hide hn
    rw [← hn] at hle
    obtain ⟨vs, hsl, isl⟩ := (HB.out.below RS.out.2.2).slice_l Tryz.elemB3 Tryz.sizeB3 n hle
    have HF := hide (fread_any vs _ wr isl (by rw [List.length_drop]; omega))
    clear isl hn
    go_wp2_with fail
    refine HF.out.mono ?_
    rintro E wa ⟨v1, z, k, e, rfl, own1, bel1, R⟩
    have sza := bel1.size
    have RA := hide (show RdS bs l ∧ Rq w.heap.size wa l (.slice sa sn sk) rs ∧ Below w.heap.size w wa from ⟨RS.out.1, RS.out.2.1.below bel1, RS.out.2.2.trans (bel1.mono szr)⟩)
    clear HF RS hsl
    have R' : Hid (Fm.Rd (bs.drop (Rl.lgb l).length) z k e) := hide (by rw [← HN.out]; exact R.out)
    clear R
    have R := R'
    clear R'
    have he : e = 0 ∨ e = 5 := by
      rcases R.out with h | h
      · exact .inl h.1
      · exact .inr h.1
    rcases he with rfl | rfl
    · have hzl : z.length ≤ 131072 := (rds_zero R.out).1
      have HD := hide (hdec_any v1 z wa own1.is (by omega))
      obtain ⟨o1, k1, hv1, _, _⟩ := own1.is.shape
      subst hv1
      clear own1 bel1
      go_wp2_with fail
      refine HD.out.mono ?_
      rintro E wb ⟨ee, nn, g, vo, ops, rfl, ownc, hcr, bel2⟩
      have szb := bel2.size
      have hgg := Rn.dc_e hcr.out
      obtain ⟨oa, on, ok, hvo⟩ : ∃ a n k, vo = .slice a n k := by
        obtain ⟨a1, k1, h1, _⟩ := ownc.is.shape
        exact ⟨a1, _, k1, h1⟩
      subst hvo
      obtain ⟨wc, hwc, hwc2, szc, belc, bC, x0, x1, x2⟩ := new_step wb 93 (.int .i64 0) (.int .i64 0) (.slice none 0 0) (.int .i64 ee) (.int .i64 nn) (.slice oa on ok)
      have belac := bel2.trans (belc.mono szb)
      have RC := hide (show RdS bs l ∧ Rq w.heap.size wc l (.slice sa sn sk) rs ∧ Below w.heap.size w wc from ⟨RA.out.1, RA.out.2.1.below belac, RA.out.2.2.trans (belac.mono (by omega))⟩)
      have OC := hide (ownc.below belc)
      unfold cmv
      clear RA HD ownc bel2 belc belac
      rcases hgg with rfl | rfl
      · have hgl := Rl.good_len RC.out.1.1
        have FO := hide (hfollows_any (.slice sa sn sk) rs ee nn (.slice oa on ok) wc RC.out.2.1.row.row RC.out.2.1.len_le ⟨_, _, _, rfl⟩ (by rw [RC.out.2.1.is]; exact hgl.2))
        rw [RC.out.2.1.is] at FO
        unfold cmv at FO
        obtain ⟨ans, hans⟩ : ∃ x, decide (ee - 1 = Cm.lastN 0 l) = x := ⟨_, rfl⟩
        rw [hans] at FO
        have HA := hide hans
        clear hans
        go_wp2_with fail
        refine FO.out.mono ?_
        rintro E wd ⟨rfl, beld⟩
        have szd := beld.size
        have RD := hide (show RdS bs l ∧ Rq w.heap.size wd l (.slice sa sn sk) rs ∧ Below w.heap.size w wd from ⟨RC.out.1, RC.out.2.1.below beld, RC.out.2.2.trans (beld.mono (by omega))⟩)
        have OD := hide (OC.out.below beld)
        have bD := (beld.block _ (blk_lt bC)).trans bC
        have y0 := blk_cell bD 0 rfl
        have y1 := blk_cell bD 1 rfl
        have y2 := blk_cell bD 2 rfl
        simp only [List.getElem_toArray, List.getElem_cons_zero, List.getElem_cons_succ] at y0 y1 y2
        clear FO RC OC beld bC bD x0 x1 x2
        cases ans with
        | false =>
          have G := hide (show Rq w.heap.size wd l (.slice sa sn sk) rs ∧ Below w.heap.size w wd ∧ Hid (Rl.Lg 0 bs l) from ⟨RD.out.2.1, RD.out.2.2, hide (RD.out.1.stopT R.out hcr.out (of_decide_eq_false HA.out))⟩)
          clear RD OD hcr
          go_wp2
          go_ret2
          exact ⟨l, .slice sa sn sk, rs, by rw [← HN.out]; rfl, G.out⟩
        | true =>
          obtain ⟨g1, g2, g3⟩ := RD.out.1.next R.out hcr.out (of_decide_eq_true HA.out)
          obtain ⟨we, hwe, sze, bele, owne⟩ := coms_step 93 wd #[.int .i64 ee, .int .i64 nn, .slice oa on ok] 1 [⟨ee, nn, .slice oa on ok, ops⟩] rfl rfl (by simp [maxLen])
          have RQE := RD.out.2.1.below bele
          have OE := hide (OD.out.below bele)
          have REE := hide RQE
          have hre := RQE.row
          have hze : w.heap.size ≤ we.heap.size := by omega
          have hlen : (rs.length + [(⟨ee, nn, .slice oa on ok, ops⟩ : Cw)].length) * 40 ≤ 140737488355328 := by have := RQE.len_le; simp; omega
          have HG := hide (show RdS bs (l ++ [⟨ee, nn, ops⟩]) ∧ (Rl.lgb (l ++ [⟨ee, nn, ops⟩])).length = n + k ∧ 1 ≤ k from ⟨g1, by rw [g2, HN.out], g3⟩)
          have hkb : n + k ≤ bs.length := by rw [← HG.out.2.1]; exact g1.le
          have hwr := wrap_i64_small ((n : Int) + (k : Int)) (by omega) (by omega)
          have BE := hide (RD.out.2.2.trans (bele.mono (by omega)))
          have rowe := owne.row
          have hone : ∀ c ∈ [(⟨ee, nn, .slice oa on ok, ops⟩ : Cw)], c.v.oneCell' = true := fun c hc => by rw [List.mem_singleton.1 hc]; rfl
          clear g1 g2 RQE RD OD bele owne hcr
          go_wp2_with (at_builtin; refine wpList_append_coms rfl (.tmp 35) (.tmp 37) 69 rfl 93 w.heap.size Tryz.underlying69 Tryz.info93 _ rs rfl hre _ [⟨ee, nn, .slice oa on ok, ops⟩] rfl rowe hone hlen hze ?_)
          rintro v7 w7 own7 bel7 kp7
          have RN := hide (show RdS bs (l ++ [⟨ee, nn, ops⟩]) ∧ Rq w.heap.size w7 (l ++ [⟨ee, nn, ops⟩]) v7 (rs ++ [⟨ee, nn, .slice oa on ok, ops⟩]) ∧ Below w.heap.size w w7 from ⟨HG.out.1, REE.out.grow own7 kp7 (OE.out.rebase (by omega)) HG.out.1.1, BE.out.trans bel7⟩)
          clear own7 kp7 bel7 hre rowe REE OE BE
          go_wp2
          go_roundw
          case rel => exact ⟨_, n + k, _, by go_num, HG.out.2.1.symm, RN⟩
          case measure => simp [intOf]; omega
      · have G := hide (show Rq w.heap.size wc l (.slice sa sn sk) rs ∧ Below w.heap.size w wc ∧ Hid (Rl.Lg 0 bs l) from ⟨RC.out.2.1, RC.out.2.2, hide (RC.out.1.stopC R.out hcr.out)⟩)
        clear RC OC hcr
        go_wp2
        go_ret2
        exact ⟨l, .slice sa sn sk, rs, by rw [← HN.out]; rfl, G.out⟩
    · have G := hide (show Rq w.heap.size wa l (.slice sa sn sk) rs ∧ Below w.heap.size w wa ∧ Hid (Rl.Lg 0 bs l) from ⟨RA.out.2.1, RA.out.2.2, hide (RA.out.1.stop R.out)⟩)
      obtain ⟨o1, k1, hv1, _, _⟩ := own1.is.shape
      subst hv1
      clear RA own1 bel1 R
      go_wp2
      go_ret2
      exact ⟨l, .slice sa sn sk, rs, by rw [← HN.out]; rfl, G.out⟩

end Go.Proofs.YthmecljkackmbaaGreat

/- Open of runs, and what is put behind the file. -/
namespace Go.Proofs.YthmecljkackmbaaGreat
open Go.RowKit
set_option linter.unusedVariables false

/-- A list's blocks are none of a disk's. -/
theorem rq_pk {base q : Nat} {F : Nat → Prop} {w : World} {l : List Cm.Cv} {v : Value} {rs : List Cw} {st : Dm.Ds} (h : Rq base w l v rs) (k : Pk q F w st) : ∀ g, QB v rs g → ¬ F g := by
  intro g hg hf
  obtain ⟨cs, t, e, ht⟩ := h.ty g hg
  obtain ⟨cs', t', fr, e', ht'⟩ := k.ty g hf
  rw [e] at e'
  simp only [Option.some.injEq, Obj.cells.injEq] at e'
  obtain ⟨_, e2, _⟩ := e'
  subst e2
  rcases ht with rfl | rfl <;> rcases ht' with e | e | e <;> exact absurd e (by decide)

theorem Rq.out {base : Nat} {F : Nat → Prop} {w w' : World} {l : List Cm.Cv} {v : Value} {rs : List Cw} (h : Rq base w l v rs) (ho : Out F w w') (hd : ∀ g, QB v rs g → ¬ F g) : Rq base w' l v rs := h.agree fun g hg => ho.block g (h.lt g hg) (hd g hg)

/-- What Open answers, and what it leaves of the disk. -/
def ropE (st : Dm.Ds) (l : List Cm.Cv) : Int := if st.on = false then 6 else (Rl.trm st (Rl.lgb l).length).1
def ropD (st : Dm.Ds) (l : List Cm.Cv) : Dm.Ds := if st.on = false then st else (Rl.trm st (Rl.lgb l).length).2

theorem rtrm_e (st : Dm.Ds) (n : Nat) : (Rl.trm st n).1 = 0 ∨ (Rl.trm st n).1 = 6 := by
  unfold Rl.trm
  split
  · exact .inl rfl
  split
  · exact .inr rfl
  split
  · exact .inr rfl
  · exact .inl rfl

theorem rcut_e {st : Dm.Ds} {n : Nat} (ho : st.on = true) (hn : n ≤ (Rl.hld st).length) : (Dm.cutD st 2 n).1 = 0 ∨ (Dm.cutD st 2 n).1 = 6 := by
  unfold Dm.cutD
  rw [if_neg (by simp [ho]), if_neg (by decide), if_neg ?_]
  · split
    · exact .inr rfl
    · exact .inl rfl
  · unfold Rl.hld at hn
    simp
    omega

theorem rtrm_go {st : Dm.Ds} {n : Nat} (ho : st.on = true) (hn : n ≤ (Rl.hld st).length) (hne : (Rl.hld st).length ≠ n) :
    (if (Dm.cutD st 2 n).1 ≠ 0 then (Dm.cutD st 2 n).1 else (Dm.sync (Dm.cutD st 2 n).2).1) = (Rl.trm st n).1 ∧ (if (Dm.cutD st 2 n).1 ≠ 0 then (Dm.cutD st 2 n).2 else (Dm.sync (Dm.cutD st 2 n).2).2) = (Rl.trm st n).2 := by
  unfold Rl.trm
  rw [if_neg hne]
  rcases rcut_e ho hn with e | e
  · rw [e]
    simp only [ne_eq, not_true, if_false]
    rcases Rl.sync_e (Dm.cutD st 2 n).2 with f | f
    · rw [f]; simp
    · rw [f]; simp
  · rw [e]
    simp

theorem rhld_len {st : Dm.Ds} {t u : Nat} (h : Big t u st) : (Rl.hld st).length ≤ t := by
  unfold Rl.hld
  exact Nat.le_trans (Dm.hold_len st.wait (st.sure 2) 2) (h.1.1 2)

theorem rdB_rhld {st : Dm.Ds} (ho : st.on = true) : rdB st 2 = Rl.hld st ∧ rdE st 2 = 0 := by
  unfold rdB rdE
  rw [if_neg (by simp [ho]), if_neg (by decide), if_neg (by simp [ho]), if_neg (by decide)]
  exact ⟨rfl, rfl⟩

theorem PStep.post3 {p : Nat} {F : Nat → Prop} {w w1 w2 : World} {st : Dm.Ds} (h : PStep p F w w1 st) (hb : Below w1.heap.size w1 w2) : PStep p F w w2 st := by
  obtain ⟨F1, h1, h2, h3⟩ := h
  exact ⟨F1, h1.below hb, h2.trans (Out.of_below (F := F) hb) fun g hg => .inl hg, h3⟩

set_option maxRecDepth 20000 in
set_option maxHeartbeats 2000000 in
theorem hopen_any (q : Nat) (F : Nat → Prop) (w : World) (st : Dm.Ds) (h : Pk q F w st) (hs : Big 100000000 800000 st) :
    Calls Tryz.prog 19 #[.pointer (some ⟨q, 0, none⟩)] w fun E w' => ∃ l, Hid (Rl.Lg 0 (Rl.hld st) l) ∧ PStep q F w w' (ropD st l) ∧
      ((ropE st l ≠ 0 ∧ E = .returned (.tuple #[.pointer none, .int .i64 (ropE st l)])) ∨ (ropE st l = 0 ∧ ∃ p G, E = .returned (.tuple #[.pointer (some ⟨p, 0, none⟩), .int .i64 0]) ∧ Rk p q G w' l false ∧ ∀ g, G g → w.heap.size ≤ g)) := by
  have HR := hide (dread_any q F w st 2 h (fun f => Nat.le_trans (hs.1.1 f) (by decide)) (Nat.le_trans hs.1.2.1 (by decide)))
  have HK := hide h
  have HS := hide hs
  cases hon : st.on with
  | false =>
    obtain ⟨l, hl⟩ := Rl.lg_is 0 (Rl.hld st)
    have e1 : ropE st l = 6 := by unfold ropE; rw [if_pos hon]
    have e2 : ropD st l = st := by unfold ropD; rw [if_pos hon]
    have E1 := hide e1
    have E2 := hide e2
    have HL := hide hl
    have er : rdE st 2 = 6 := by unfold rdE; rw [if_pos hon]
    rw [er] at HR
    clear h hs hon e1 e2 hl er
    go_enter Tryz.func19, Tryz.ntmps19
    go_wp2_with fail
    refine HR.out.mono ?_
    rintro E w1 ⟨v, rfl, own, bel⟩
    obtain ⟨a, c, hv, _, _⟩ := own.is.shape
    subst hv
    have PS := hide (PStep.same HK.out bel)
    clear own bel HR
    go_wp2
    go_ret2
    exact ⟨l, HL, by rw [E2.out]; exact PS.out, .inl ⟨by rw [E1.out]; decide, by rw [E1.out]; rfl⟩⟩
  | true =>
    obtain ⟨er, ee⟩ := rdB_rhld hon
    rw [er, ee] at HR
    have hlen := rhld_len hs
    have HO := hide hon
    clear h hs er ee
    go_enter Tryz.func19, Tryz.ntmps19
    go_wp2_with fail
    refine HR.out.mono ?_
    rintro E w1 ⟨v, rfl, own, bel⟩
    have HW := hide (hscan_any v (Rl.hld st) w1 own.is (by omega))
    obtain ⟨a, c, hv, _, _⟩ := own.is.shape
    subst hv
    have sz1 := bel.size
    clear own HR
    go_wp2_with fail
    refine HW.out.mono ?_
    rintro E w2 ⟨l, vl, rs, rfl, L2, bel2, LG⟩
    have sz2 := bel2.size
    have b02 := bel.trans (bel2.mono bel.size)
    have K2 := hide (HK.out.below b02)
    have hle : (Rl.lgb l).length ≤ (Rl.hld st).length := LG.out.2.1.length_le
    obtain ⟨la, ln, lk, hvl⟩ : ∃ a n k, vl = .slice a n k := by
      obtain ⟨a1, k1, h1, _⟩ := L2.row.row.shape
      exact ⟨a1, _, k1, h1⟩
    subst hvl
    have HL2 := hide L2
    have B02 := hide b02
    obtain ⟨z, hz⟩ : ∃ z, (Rl.lgb l).length = z := ⟨_, rfl⟩
    rw [hz] at hle ⊢
    have HZ := hide hz
    obtain ⟨m, hm⟩ : ∃ m, (Rl.hld st).length = m := ⟨_, rfl⟩
    rw [hm] at hle hlen ⊢
    have HMM := hide hm
    clear L2 bel2 HW hz b02 bel hm
    by_cases hq : m = z
    · have e1 : ropE st l = 0 := by unfold ropE Rl.trm; rw [if_neg (by rw [HO.out]; decide), if_pos (by rw [HZ.out, HMM.out]; exact hq)]
      have e2 : ropD st l = st := by unfold ropD Rl.trm; rw [if_neg (by rw [HO.out]; decide), if_pos (by rw [HZ.out, HMM.out]; exact hq)]
      have E1 := hide e1
      have E2 := hide e2
      have hb : ¬ ((z : Int) < (m : Int)) := by omega
      obtain ⟨W, hW, szW, belW, bW⟩ := blk_step w2 #[.pointer (some ⟨q, 0, none⟩), .bool false, .slice la ln lk] 71
      have G := hide (show Rk w2.heap.size q (fun g => g = w2.heap.size ∨ QB (.slice la ln lk) rs g) W l false ∧ (∀ g, (g = w2.heap.size ∨ QB (.slice la ln lk) rs g) → w.heap.size ≤ g) ∧ Below w.heap.size w W from ⟨⟨_, rs, ⟨bW, (HL2.out.below belW).rebase (Nat.zero_le _)⟩, rfl⟩, by
        rintro g (e | e)
        · omega
        · have := HL2.out.ge g e
          omega, B02.out.trans (belW.mono (by omega))⟩)
      clear e1 e2 hq bW belW
      go_wp2
      go_ret2
      exact ⟨l, LG, by rw [E2.out]; exact PStep.same HK.out G.out.2.2, .inr ⟨E1.out, _, _, rfl, G.out.1, G.out.2.1⟩⟩
    · have hb : (z : Int) < (m : Int) := by omega
      have HT := hide (htrim_any q F w2 st (z : Int) K2.out HS.out)
      obtain ⟨t1, t2⟩ := rtrm_go (n := z) HO.out (by rw [HMM.out]; exact hle) (by rw [HMM.out]; exact hq)
      rw [t1, t2] at HT
      have e1 : ropE st l = (Rl.trm st z).1 := by unfold ropE; rw [if_neg (by rw [HO.out]; decide), HZ.out]
      have e2 : ropD st l = (Rl.trm st z).2 := by unfold ropD; rw [if_neg (by rw [HO.out]; decide), HZ.out]
      rw [← e1, ← e2] at HT
      have e01 : ropE st l = 0 ∨ ropE st l = 6 := by rw [e1]; exact rtrm_e st z
      clear e1 e2 t1 t2
      go_wp2_with fail
      refine HT.out.mono ?_
      rintro E w5 ⟨rfl, PS⟩
      have P0 := hide (PStep.pre B02.out PS)
      have L5 : Hid (Rq w1.heap.size w5 l (.slice la ln lk) rs ∧ w2.heap.size ≤ w5.heap.size) := hide (by
        obtain ⟨F', _, ho, _⟩ := PS
        exact ⟨HL2.out.out ho (rq_pk HL2.out K2.out), ho.size⟩)
      generalize hoe : ropE st l = oe at *
      have HOE := hide hoe
      clear PS HT hoe
      rcases e01 with rfl | rfl
      · obtain ⟨W, hW, szW, belW, bW⟩ := blk_step w5 #[.pointer (some ⟨q, 0, none⟩), .bool false, .slice la ln lk] 71
        have sz5 := L5.out.2
        have G := hide (show Rk w5.heap.size q (fun g => g = w5.heap.size ∨ QB (.slice la ln lk) rs g) W l false ∧ (∀ g, (g = w5.heap.size ∨ QB (.slice la ln lk) rs g) → w.heap.size ≤ g) ∧ PStep q F w W (ropD st l) from ⟨⟨_, rs, ⟨bW, (L5.out.1.below belW).rebase (Nat.zero_le _)⟩, rfl⟩, by
          rintro g (e | e)
          · omega
          · have := L5.out.1.ge g e
            omega, P0.out.post3 belW⟩)
        clear bW belW
        go_wp2
        go_ret2
        exact ⟨l, LG, G.out.2.2, .inr ⟨HOE.out, _, _, rfl, G.out.1, G.out.2.1⟩⟩
      · go_wp2
        go_ret2
        exact ⟨l, LG, P0.out, .inl ⟨by rw [HOE.out]; decide, by rw [HOE.out]; rfl⟩⟩

/-- Runs' sizes. -/
def RBig (s : Rl.Rs) : Prop := Big 90000000 700000 s.d
theorem RBig.big {s : Rl.Rs} (h : RBig s) : Big 100000000 800000 s.d := Big.mono h (by decide) (by decide)

theorem cnt_run {n : Nat} (h : n ≤ 52236) : cnt n ≤ 817 := by
  unfold cnt
  omega

set_option maxHeartbeats 1000000 in
theorem hextend_any (q : Nat) (F : Nat → Prop) (w : World) (st : Dm.Ds) (vb : Value) (bs : List Int) (h : Pk q F w st) (hs : Big 90000000 700000 st) (hb : Own .u8 5 0 w vb bs) (hbF : ∀ b, vb.ownBlock = some b → ¬ F b) (hl : bs.length ≤ 52236) :
    Calls Tryz.prog 120 #[.pointer (some ⟨q, 0, none⟩), vb] w fun E w' => E = .returned (.int .i64 (Rl.ext st bs).1) ∧ PStep q F w w' (Rl.ext st bs).2 := by
  have hc := cnt_run hl
  have HW := hide (write_any q F w st 2 vb bs h hb.is (fun _ => hbF) (by omega) (by have := hs.1.2.1; omega) hs.2 (by have := hs.1.2.2; omega))
  have hs2 : Big 100000000 800000 (Dm.write st 2 bs).2 := (big_write hs 2 bs).mono (by omega) (by omega)
  have HSY : Hid (∀ W G, Pk q G W (Dm.write st 2 bs).2 → Calls Tryz.prog 131 #[.pointer (some ⟨q, 0, none⟩)] W fun E w' => E = .returned (.int .i64 (Dm.sync (Dm.write st 2 bs).2).1) ∧ PStep q G W w' (Dm.sync (Dm.write st 2 bs).2).2) := hide fun W G hk => sync_any q G W _ hk (fun f => Nat.le_trans (hs2.1.1 f) (by decide)) (Nat.le_trans hs2.1.2.1 (by decide)) hs2.2 (Nat.lt_of_le_of_lt hs2.1.2.2 (by decide))
  obtain ⟨a, c, hv, _, _⟩ := hb.is.shape
  unfold Rl.ext
  generalize Dm.write st 2 bs = x at *
  obtain ⟨e, st2⟩ := x
  simp only at *
  generalize Dm.sync st2 = y at *
  obtain ⟨f, st3⟩ := y
  simp only at *
  subst hv
  clear h hs hs2 hb
  by_cases he : e = 0
  · subst he
    simp only [ne_eq, not_true, if_false]
    go_enter Tryz.func120, Tryz.ntmps120
    go_wp2_with fail
    refine HW.out.mono ?_
    rintro E w1 ⟨rfl, F1, k1, k2, k3⟩
    have HS1 := hide (HSY.out w1 F1 k1)
    have K2 := hide k2
    have K3 := hide k3
    clear k1 k2 k3 HW HSY
    go_wp2_with fail
    refine HS1.out.mono ?_
    rintro E w2 ⟨rfl, J⟩
    have J := hide (PStep.trans K2.out K3.out J)
    go_wp2
    go_ret
    exact ⟨rfl, J.out⟩
  · simp only [ne_eq, he, not_false_eq_true, if_true]
    have hne : (e != 0) = true := by simp [he]
    go_enter Tryz.func120, Tryz.ntmps120
    go_wp2_with fail
    refine HW.out.mono ?_
    rintro E w1 ⟨rfl, J⟩
    have J := hide J
    clear HW HSY
    go_wp2
    go_ret
    exact ⟨rfl, J.out⟩

end Go.Proofs.YthmecljkackmbaaGreat

/- Flush. -/
namespace Go.Proofs.YthmecljkackmbaaGreat
open Go.RowKit
set_option linter.unusedVariables false

theorem Tryz.enters112 : ∀ args w, (callFunc 112 args).run Tryz.prog w = .ok (.enter 112 args) w := enters_of Tryz.func112 (by kernel_rfl) rfl

/-- A run more, put into the object. -/
theorem rk_push {p q : Nat} {F1 : Nat → Prop} {w wc : World} {d : Dm.Ds} {l : List Cm.Cv} {bk : Bool} {v : Value} {rs : List Cw} {c : Cw} (h1 : Pk q F1 w d) (hv : RkV p q w l bk v rs) (hb : Below w.heap.size w wc) (hc : OwnO 81 w.heap.size wc c.v c.l) (hg : Rl.Good 0 (l ++ [c.c])) (ty : TypeId) :
    ∃ V, wc.alloc (.cells #[.int .i64 c.e, .int .i64 c.n, c.v] 93) = V ∧ V.cell? ⟨p, 2, none⟩ = some v ∧ ∃ v2 w2, (Builtin.append_ #[69, 69] ty #[v, .slice (some ⟨wc.heap.size, 0, none⟩) 1 1]).run Tryz.prog V = .ok v2 w2 ∧ w2.cell? ⟨p, 2, none⟩ = some v ∧ w2.frozen? ⟨p, 2, none⟩ = false ∧ (∃ a n k, v2 = .slice a n k) ∧
      (∃ F', RW p q F' (w2.setCell ⟨p, 2, none⟩ v2) ⟨d, l ++ [c.c], bk⟩ ∧ Out (fun g => F1 g ∨ g = p ∨ QB v rs g) w (w2.setCell ⟨p, 2, none⟩ v2) ∧ ∀ g, F' g → (F1 g ∨ g = p ∨ QB v rs g) ∨ w.heap.size ≤ g) := by
  have hsz := hb.size
  obtain ⟨V, hV, szV, belV, ownV⟩ := coms_step 93 wc #[.int .i64 c.e, .int .i64 c.n, c.v] 1 [c] rfl rfl (by simp [maxLen])
  have bwV := hb.trans (belV.mono hsz)
  have qV := hv.log.below bwV
  have BV := (bwV.block p (blk_lt hv.blk)).trans hv.blk
  have hone : ∀ d ∈ [c], d.v.oneCell' = true := fun d hd => by rw [List.mem_singleton.1 hd]; exact hc.is.one
  obtain ⟨v2, w2, hr, own2, gr2, at2⟩ := run_append_coms_at (P := Tryz.prog) (w := V) 69 ty 93 0 Tryz.underlying69 Tryz.info93 v rs qV.row _ [c] ownV.row hone (by have := hv.log.len_le; simp; omega) (Nat.zero_le _)
  have kp : KeepT 93 V w2 := KeepT.of_row qV.row gr2
  have q2 := qV.grow own2 kp ((hc.below belV).rebase (Nat.zero_le _)) hg
  have hpn : ¬ v.ownBlock = some p := fun e => qV.ne BV (by decide) (by decide) (.inl e)
  have B2 := (gr2.block p (blk_lt BV) (fun e => hpn e.symm)).trans BV
  obtain ⟨X, hX, bX, gX, fX⟩ := put_at3 B2 2 v2
  have qX : Rq 0 X (l ++ [c.c]) v2 (rs ++ [c]) := q2.agree fun g hg => gX.block g (q2.lt g hg) fun e => by
    simp at e
    exact q2.ne B2 (by decide) (by decide) (e ▸ hg)
  have oV : Out (fun g => F1 g ∨ g = p ∨ QB v rs g) w V := Out.of_below bwV
  have o2 : Out (fun g => F1 g ∨ g = p ∨ QB v rs g) w w2 := oV.trans (Out.of_grown (F := fun g => F1 g ∨ g = p ∨ QB v rs g) gr2 fun g hg => .inr (.inr (.inl hg))) fun g hg => .inl hg
  have oX : Out (fun g => F1 g ∨ g = p ∨ QB v rs g) w X := o2.trans (Out.of_grown (F := fun g => F1 g ∨ g = p ∨ QB v rs g) gX fun g hg => .inr (.inl (by simpa using hg.symm))) fun g hg => .inl hg
  have hk : Rk p q (fun g => g = p ∨ QB v rs g) w l bk := ⟨v, rs, hv, rfl⟩
  have KX : Pk q F1 X d := by
    have o : Out (fun g => g = p ∨ QB v rs g) w X := by
      refine ((Out.of_below (F := fun g => g = p ∨ QB v rs g) bwV).trans (Out.of_grown (F := fun g => g = p ∨ QB v rs g) gr2 fun g hg => .inr (.inl hg)) fun g hg => .inl hg).trans (Out.of_grown (F := fun g => g = p ∨ QB v rs g) gX fun g hg => .inl (by simpa using hg.symm)) fun g hg => .inl hg
    exact h1.out o fun g hg e => rk_pk hk h1 g e hg
  refine ⟨V, hV, blk_cell BV 2 rfl, v2, w2, hr, blk_cell B2 2 rfl, fX, ?_, ?_⟩
  · obtain ⟨a1, k1, h1, _⟩ := own2.row.shape
    exact ⟨a1, _, k1, h1⟩
  · rw [hX]
    refine ⟨_, ⟨F1, _, KX, ⟨v2, rs ++ [c], ⟨bX, qX⟩, rfl⟩, rfl⟩, oX, ?_⟩
    rintro g (e | e | e | ⟨d, hd, e⟩)
    · exact .inl (.inl e)
    · exact .inl (.inr (.inl e))
    · rcases at2 with h | h
      · exact .inl (.inr (.inr (.inl (h ▸ e))))
      · rw [h] at e
        simp at e
        exact .inr (by omega)
    · rcases List.mem_append.1 hd with hd | hd
      · exact .inl (.inr (.inr (.inr ⟨d, hd, e⟩)))
      · rw [List.mem_singleton.1 hd] at e
        exact .inr (hc.block g e).1

set_option maxRecDepth 20000 in
set_option maxHeartbeats 4000000 in
theorem hflush_any (p q : Nat) (F : Nat → Prop) (w : World) (s : Rl.Rs) (c : Cw) (h : RW p q F w s) (hs : RBig s) (hi : IsO w c.v c.l) (hf : FitO c.l) (h64 : In64 c.e ∧ In64 c.n) (hlo : c.l.length * 40 ≤ 140737488351232) (hcF : 0 < c.l.length → ∀ b, c.v.ownBlock = some b → ¬ F b) :
    Calls Tryz.prog 54 #[.pointer (some ⟨p, 0, none⟩), cmv c.e c.n c.v] w fun E w' => E = .returned (.int .i64 (Rl.flu s c.c).1) ∧ RStep p q F w w' (Rl.flu s c.c).2 := by
  obtain ⟨ao, cap, hcv, _, _⟩ := hi.shape
  obtain ⟨w1, hw1, sz1, bel1, hB0⟩ := blk_step w #[.int .i64 c.e, .int .i64 c.n, c.v] 93
  have c0 : w1.cell? ⟨w.heap.size, 0, none⟩ = some (.int .i64 c.e) := blk_cell hB0 0 rfl
  have c1 : w1.cell? ⟨w.heap.size, 1, none⟩ = some (.int .i64 c.n) := blk_cell hB0 1 rfl
  have c2 : w1.cell? ⟨w.heap.size, 2, none⟩ = some c.v := blk_cell hB0 2 rfl
  have hW1 := h.below bel1
  have HR := hide (hrefuses_any p q F w1 s hW1)
  have hb := hs.big
  have HLT := hide h.lt
  have HCF := hide hcF
  clear hcF
  unfold cmv
  rw [hcv] at hw1 c2 ⊢
  cases ha : Rl.ask s with
  | true =>
    have e1 : Rl.flu s c.c = (6, Rl.brk s) := by unfold Rl.flu; rw [ha]; rfl
    rw [e1]
    have B1 := hide bel1
    clear h hs hi hf h64 hlo hW1 hB0 bel1 e1
    go_enter Tryz.func54, Tryz.ntmps54
    go_wp2_with fail
    refine HR.out.mono ?_
    rintro E w2 (⟨_, rfl, J⟩ | ⟨h0, _⟩)
    · have J := hide (RStep.pre B1.out J)
      clear HR
      go_wp2
      go_ret
      exact ⟨rfl, J.out⟩
    · rw [ha] at h0
      cases h0
  | false =>
    have HFR := hide (hframed_any c.e c.n c.v c.l w1 (hi.below bel1) hf (by omega))
    unfold cmv at HFR
    rw [hcv] at HFR
    obtain ⟨ch, hch⟩ : ∃ x, Rn.chk c.e c.n c.l = x := ⟨_, rfl⟩
    rw [hch] at HFR
    have KC := hide hch
    have HCV := hide hcv
    have IOX := hide hi
    have WA := hide hW1
    have FO := hide (show FitO c.l ∧ (In64 c.e ∧ In64 c.n) ∧ c.l.length * 40 ≤ 140737488351232 from ⟨hf, h64, hlo⟩)
    have HB := hide hB0
    have B1 := hide bel1
    have HS := hide hs
    have HASK := hide ha
    clear h hs hi hf h64 hlo hW1 hch hcv hb hB0 bel1 ha
    go_enter Tryz.func54, Tryz.ntmps54
    go_wp2_with fail
    refine HR.out.mono ?_
    rintro E w2 (⟨h0, _⟩ | ⟨_, rfl, rfl⟩)
    · rw [HASK.out] at h0
      cases h0
    clear HR
    go_wp2_with fail
    refine HFR.out.mono ?_
    rintro E w2 ⟨vb, rfl, own, bel2⟩
    have W2 := WA.out.below bel2
    have b02 := B1.out.trans (bel2.mono B1.out.size)
    have sz2 := bel2.size
    have hB2 := (bel2.block w.heap.size (by omega)).trans HB.out
    have d0 : w2.cell? ⟨w.heap.size, 0, none⟩ = some (.int .i64 c.e) := blk_cell hB2 0 rfl
    have d1 : w2.cell? ⟨w.heap.size, 1, none⟩ = some (.int .i64 c.n) := blk_cell hB2 1 rfl
    have d2 : w2.cell? ⟨w.heap.size, 2, none⟩ = some c.v := blk_cell hB2 2 rfl
    rw [HCV.out] at d2
    obtain ⟨ab, nb, cb, hvb⟩ : ∃ a n k, vb = .slice a n k := by
      obtain ⟨a1, k1, h1, _⟩ := own.is.shape
      exact ⟨a1, _, k1, h1⟩
    subst hvb
    have OB := hide own
    have HB2 := hide hB2
    have B02 := hide b02
    have HW2 := hide W2
    clear WA own bel2 HFR hB2 c0 c1 c2 W2 b02
    by_cases hc0 : ch = 0
    · subst hc0
      have hfr : frdR c.e c.n c.l = Rl.fr c.c := by unfold frdR; rw [if_pos KC.out]; rfl
      rw [hfr] at OB
      have hfl : (Rl.fr c.c).length ≤ 52236 := Rl.fr_small KC.out
      obtain ⟨F1, G1, h1, h2, hF⟩ := HW2.out
      obtain ⟨v, rs, hv, hG⟩ := h2
      have hgl := Rl.good_len hv.log.good
      have p0 : w2.cell? ⟨p, 0, none⟩ = some (.pointer (some ⟨q, 0, none⟩)) := blk_cell hv.blk 0 rfl
      have p2 : w2.cell? ⟨p, 2, none⟩ = some v := blk_cell hv.blk 2 rfl
      have hpw : p < w2.heap.size := blk_lt hv.blk
      obtain ⟨la, ln, lk, hlv⟩ : ∃ a n k, v = .slice a n k := by
        obtain ⟨a1, k1, h1, _⟩ := hv.log.row.row.shape
        exact ⟨a1, _, k1, h1⟩
      subst hlv
      obtain ⟨ans, hans⟩ : ∃ x, decide (c.e - 1 = Cm.lastN 0 s.l) = x := ⟨_, rfl⟩
      have TK : Hid (∀ W, Below w2.heap.size w2 W → Calls Tryz.prog 119 #[.slice la ln lk, .agg #[.int .i64 c.e, .int .i64 c.n, .slice ao c.l.length cap]] W fun E w' => E = .returned (.bool ans) ∧ Below w2.heap.size w2 w') := hide fun W hbW => by
        have := hfollows_any (.slice la ln lk) rs c.e c.n (.slice ao c.l.length cap) W (hv.log.row.row.below hbW) hv.log.len_le ⟨_, _, _, rfl⟩ (by rw [hv.log.is]; exact hgl.2)
        unfold cmv at this
        rw [hv.log.is, hans] at this
        refine this.mono ?_
        rintro E w' ⟨rfl, hb'⟩
        exact ⟨rfl, hbW.trans (hb'.mono hbW.size)⟩
      have HA := hide hans
      have HV := hide hv
      have H1 := hide h1
      have HFF := hide hF
      have HGG := hide hG
      clear hans hv h1 hF hG
      go_wp2_with fail
      go_region_held3 (fun w' => w'.cell? ⟨w.heap.size, 0, none⟩ = some (.int .i64 c.e) ∧ w'.cell? ⟨w.heap.size, 1, none⟩ = some (.int .i64 c.n) ∧ w'.cell? ⟨w.heap.size, 2, none⟩ = some (.slice ao c.l.length cap) ∧ w'.cell? ⟨p, 0, none⟩ = some (.pointer (some ⟨q, 0, none⟩)) ∧ w'.cell? ⟨p, 2, none⟩ = some (.slice la ln lk)) (first | exact ⟨d0, d1, d2, p0, p2⟩ | exact ⟨e0, e1, e2, g0, g2⟩ | go_keep)
        (first
        | (go_at_call 119; refine (TK.out _ ((Below.refl _ _).drew)).mono ?_; rintro E w3 ⟨rfl, bel3⟩; have e0 := (bel3.cell (p := ⟨w.heap.size, 0, none⟩) (show w.heap.size < w2.heap.size by omega)).trans d0; have e1 := (bel3.cell (p := ⟨w.heap.size, 1, none⟩) (show w.heap.size < w2.heap.size by omega)).trans d1; have e2 := (bel3.cell (p := ⟨w.heap.size, 2, none⟩) (show w.heap.size < w2.heap.size by omega)).trans d2; have g0 := (bel3.cell (p := ⟨p, 0, none⟩) hpw).trans p0; have g2 := (bel3.cell (p := ⟨p, 2, none⟩) hpw).trans p2))
      have b03 := B02.out.trans (bel3.mono B02.out.size)
      have sz3 := bel3.size
      have HV3 : Hid (RkV p q w3 s.l s.bk (.slice la ln lk) rs) := hide ⟨(bel3.block p hpw).trans HV.out.blk, HV.out.log.below bel3⟩
      have K3 := hide (H1.out.below bel3)
      have O3 := hide (OB.out.below bel3)
      have HB3 := hide ((bel3.block w.heap.size (by omega)).trans HB2.out)
      have W3 := hide (HW2.out.below bel3)
      have B3 := hide b03
      clear HV H1 OB HB2 TK d0 d1 d2 p0 p2 b03 bel3 HW2 B02
      cases ans with
      | false =>
        have e4 : Rl.flu s c.c = (15, s) := by
          unfold Rl.flu
          rw [HASK.out, if_neg (by decide), if_neg (by intro hx; exact hx KC.out), if_pos (show c.c.e - 1 ≠ Cm.lastN 0 s.l from of_decide_eq_false HA.out)]
        have E4 := hide e4
        clear e4 HV3 K3 O3
        go_wp2
        go_ret
        exact ⟨by rw [E4.out]; rfl, by rw [E4.out]; exact ⟨F, W3.out, Out.of_below B3.out, fun g hg => .inl hg⟩⟩
      | true =>
        have hord := of_decide_eq_true HA.out
        have hgood : Rl.Good 0 (s.l ++ [c.c]) := (Rl.good_snoc HV3.out.log.good).2 ⟨KC.out, hord⟩
        have WR := hide (hextend_any q F1 w3 s.d (.slice ab nb cb) (Rl.fr c.c) K3.out HS.out (O3.out.rebase (Nat.zero_le _)) (fun b hb hf => by
          have h1 := (O3.out.block b hb).1
          have h2 := HLT.out b (by rw [HFF.out]; exact .inl hf)
          omega) hfl)
        have e01 := Rl.ext_e s.d (Rl.fr c.c)
        have e4 : Rl.flu s c.c = if (Rl.ext s.d (Rl.fr c.c)).1 ≠ 0 then ((Rl.ext s.d (Rl.fr c.c)).1, ⟨(Rl.ext s.d (Rl.fr c.c)).2, s.l, true⟩) else (0, ⟨(Rl.ext s.d (Rl.fr c.c)).2, s.l ++ [c.c], false⟩) := by
          unfold Rl.flu
          rw [HASK.out, if_neg (by decide), if_neg (by intro hx; exact hx KC.out), if_neg (by intro hx; exact hx hord)]
        have hbk : s.bk = false := by
          have := HASK.out
          unfold Rl.ask at this
          cases hb : s.bk with
          | false => rfl
          | true => rw [hb] at this; cases this
        generalize hwr : Rl.ext s.d (Rl.fr c.c) = y at *
        obtain ⟨x, d'⟩ := y
        simp only at e01 e4 WR
        have E4 := hide e4
        have GD := hide hgood
        have HBK := hide hbk
        have SZ3 : w1.heap.size ≤ w3.heap.size := by omega
        clear e4 hgood hwr hfr hbk hord
        go_wp2_with fail
        refine WR.out.mono ?_
        rintro E w4 ⟨rfl, PS⟩
        obtain ⟨F2, k1, k2, k3, k4⟩ := RW.disk (s := ⟨s.d, s.l, s.bk⟩) K3.out ⟨_, rs, HV3.out, rfl⟩ PS
        have T4 := hide (show Out F w3 w4 ∧ ∀ g, (F2 g ∨ (g = p ∨ QB (.slice la ln lk) rs g)) → F g ∨ w3.heap.size ≤ g from by
          refine ⟨k3.mono fun g hg => .inl (by rw [HFF.out]; exact .inl hg), ?_⟩
          rintro g (hg | hg)
          · rcases k4 g hg with e | e
            · exact .inl (by rw [HFF.out]; exact .inl e)
            · exact .inr e
          · exact .inl (by rw [HFF.out, HGG.out]; exact .inr hg))
        have RW4 : Hid (RW p q (fun g => F2 g ∨ (g = p ∨ QB (.slice la ln lk) rs g)) w4 ⟨d', s.l, s.bk⟩) := hide ⟨F2, _, k1, k2, rfl⟩
        have V4 : Hid (RkV p q w4 s.l s.bk (.slice la ln lk) rs ∧ Pk q F2 w4 d') := hide ⟨⟨(k3.block p (blk_lt HV3.out.blk) (fun e => rk_pk ⟨_, rs, HV3.out, rfl⟩ K3.out p (.inl rfl) e)).trans HV3.out.blk, HV3.out.log.out k3 (rq_pk HV3.out.log K3.out)⟩, k1⟩
        clear PS k1 k2 k3 k4 WR K3 HV3 O3
        rcases e01 with rfl | rfl
        · obtain ⟨o4, s4⟩ := T4.out
          have sz4 := o4.size
          have hnF : ¬ F w.heap.size := fun hf => by have := HLT.out _ hf; omega
          have hB4 := (o4.block w.heap.size (by omega) hnF).trans HB3.out
          have x0 : w4.cell? ⟨w.heap.size, 0, none⟩ = some (.int .i64 c.e) := blk_cell hB4 0 rfl
          have x1 : w4.cell? ⟨w.heap.size, 1, none⟩ = some (.int .i64 c.n) := blk_cell hB4 1 rfl
          have x2 : w4.cell? ⟨w.heap.size, 2, none⟩ = some c.v := blk_cell hB4 2 rfl
          rw [HCV.out] at x2
          have i4 : IsO w4 c.v c.l := (IOX.out.below B3.out).out o4 HCF.out
          have hp4 : p < w4.heap.size := blk_lt V4.out.1.blk
          have y2 : w4.cell? ⟨p, 2, none⟩ = some (.slice la ln lk) := blk_cell V4.out.1.blk 2 rfl
          have X1 : Hid (Calls Tryz.prog 112 #[.agg #[.int .i64 c.e, .int .i64 c.n, .slice ao c.l.length cap]] w4.drew fun E w6 => ∃ v', E = .returned v' ∧ ∃ (vo : Value) (V : World), v' = .agg #[.int .i64 c.e, .int .i64 c.n, vo] ∧ (∃ a n k, vo = .slice a n k) ∧ w6.cell? ⟨p, 2, none⟩ = some (.slice la ln lk) ∧ (w6.cell? ⟨w.heap.size, 0, none⟩ = some (.int .i64 c.e) ∧ w6.cell? ⟨w.heap.size, 1, none⟩ = some (.int .i64 c.n) ∧ w6.cell? ⟨w.heap.size, 2, none⟩ = some (.slice ao c.l.length cap)) ∧ w6.alloc (.cells #[.int .i64 c.e, .int .i64 c.n, vo] 93) = V ∧ (V.cell? ⟨p, 2, none⟩ = some (.slice la ln lk) ∧ (V.cell? ⟨w.heap.size, 0, none⟩ = some (.int .i64 c.e) ∧ V.cell? ⟨w.heap.size, 1, none⟩ = some (.int .i64 c.n) ∧ V.cell? ⟨w.heap.size, 2, none⟩ = some (.slice ao c.l.length cap))) ∧
              Hid (∀ ty, ∃ v2 w2, (Builtin.append_ #[69, 69] ty #[.slice la ln lk, .slice (some ⟨w6.heap.size, 0, none⟩) 1 1]).run Tryz.prog V = .ok v2 w2 ∧ (RStep p q F w3 (w2.setCell ⟨p, 2, none⟩ v2) ⟨d', s.l ++ [c.c], s.bk⟩ ∧ w2.cell? ⟨p, 2, none⟩ = some (.slice la ln lk) ∧ w2.frozen? ⟨p, 2, none⟩ = false ∧ ∃ a n k, v2 = .slice a n k))) := hide (by
            have := hcopied_any c.e c.n c.v c.l w4.drew (i4.drewN 1) FO.out.2.2
            unfold cmv at this
            rw [HCV.out] at this
            refine this.mono ?_
            rintro E w6 ⟨vo, rfl, own6, bel6⟩
            have b46 : Below w4.heap.size w4 w6 := (Below.refl w4.heap.size w4).drew.trans bel6
            obtain ⟨V, hV, V2, v2, w2, hr, q1, q2, q3, F', J1, J2, J3⟩ := rk_push (c := ⟨c.e, c.n, vo, c.l⟩) V4.out.2 V4.out.1 b46 own6 GD.out 69
            have belV : Below w6.heap.size w6 V := by rw [← hV]; exact (Below.refl _ _).alloc (Nat.le_refl _) _
            have b4V := b46.trans (belV.mono b46.size)
            obtain ⟨a1, k1, h1, _⟩ := own6.is.shape
            refine ⟨_, rfl, vo, V, rfl, ⟨a1, _, k1, h1⟩, (b46.cell (p := ⟨p, 2, none⟩) hp4).trans y2, ⟨(b46.cell (p := ⟨w.heap.size, 0, none⟩) (show w.heap.size < w4.heap.size by omega)).trans x0, (b46.cell (p := ⟨w.heap.size, 1, none⟩) (show w.heap.size < w4.heap.size by omega)).trans x1, (b46.cell (p := ⟨w.heap.size, 2, none⟩) (show w.heap.size < w4.heap.size by omega)).trans x2⟩, hV, ⟨V2, (b4V.cell (p := ⟨w.heap.size, 0, none⟩) (show w.heap.size < w4.heap.size by omega)).trans x0, (b4V.cell (p := ⟨w.heap.size, 1, none⟩) (show w.heap.size < w4.heap.size by omega)).trans x1, (b4V.cell (p := ⟨w.heap.size, 2, none⟩) (show w.heap.size < w4.heap.size by omega)).trans x2⟩, hide fun ty => ?_⟩
            obtain ⟨V', hV', V2', v2', w2', hr', q1', q2', q3', F'', J1', J2', J3'⟩ := rk_push (c := ⟨c.e, c.n, vo, c.l⟩) V4.out.2 V4.out.1 b46 own6 GD.out ty
            have eV : V' = V := hV'.symm.trans hV
            subst eV
            refine ⟨v2', w2', hr', ⟨F'', J1', o4.trans J2' s4, fun g hg => ?_⟩, q1', q2', q3'⟩
            rcases J3' g hg with e | e
            · exact s4 g e
            · exact .inr (by omega))
          clear hB4 i4 V4 RW4 T4
          go_wp2_with fail
          go_region_law (first
            | (have ow := XX; refine step_append_at rfl (.tmp 45) (.tmp 48) 69 rfl (.slice la ln lk) (.slice (some ⟨w6.heap.size, 0, none⟩) 1 1) (by first | (simp [Act.eval]; done) | (simp [Act.eval, Act.put]; done)) (by first | (simp [Act.eval]; done) | (simp [Act.eval, Act.put]; done)) XX.out ?_; rintro v8 w8 ⟨J, d8, g8, a8, n8, k8, rfl⟩; have J := hide J)
            | (refine call_at rfl 112 #[.tmp 46] #[93] rfl Tryz.enters112 #[.agg #[.int .i64 c.e, .int .i64 c.n, .slice ao c.l.length cap]] (by first | (simp [Act.eval]; done) | (simp [Act.eval, Act.put]; done)) X1.out ?_; rintro v6 w6 ⟨vo, V, rfl, ⟨oa, on, ok, rfl⟩, z2, ⟨b0, b1, b2⟩, hV, ⟨z3, b3, b4, b5⟩, XX⟩))
          all_goals
            have JJ := hide (RStep.pre B3.out J.out)
            clear J
            go_wp2
            go_ret
            refine ⟨by rw [E4.out]; rfl, ?_⟩
            rw [E4.out]
            have := JJ.out
            rw [HBK.out] at this
            exact this
        · have HFL := hide (RW4.out.flag true)
          have p1 := blk_cell V4.out.1.blk 1 rfl
          have f1 := blk_froz V4.out.1.blk 1
          simp only [List.getElem_toArray, List.getElem_cons_zero, List.getElem_cons_succ] at p1
          have JJ := hide (RStep.pre B3.out (RStep.trans T4.out.1 T4.out.2 HFL.out))
          clear HFL RW4 T4 V4
          go_wp2
          go_ret
          exact ⟨by rw [E4.out]; rfl, by rw [E4.out]; exact JJ.out⟩
    · have hne : (ch != 0) = true := by simp [hc0]
      have e4 : Rl.flu s c.c = (ch, s) := by
        unfold Rl.flu
        rw [HASK.out, if_neg (by decide), if_pos (by show Rn.chk c.e c.n c.l ≠ 0; rw [KC.out]; exact hc0)]
        show (Rn.chk c.e c.n c.l, s) = (ch, s)
        rw [KC.out]
      have E4 := hide e4
      clear e4
      go_wp2
      go_ret
      exact ⟨by rw [E4.out]; rfl, by rw [E4.out]; exact ⟨F, HW2.out, Out.of_below B02.out, fun g hg => .inl hg⟩⟩

end Go.Proofs.YthmecljkackmbaaGreat

/- strings.Compare, the comparison of a key, and slices.BinarySearchFunc of ops. -/
namespace Go.Proofs.YthmecljkackmbaaGreat
open Go.RowKit
open Bm (Ov)
set_option linter.unusedVariables false

theorem cmp_neg : ∀ (a b : List UInt8), (Lib.compareBytes a b < 0) = (Op.bytesLess a b = true) ∧ (Lib.compareBytes a b = 0 ↔ a = b)
  | [], [] => by simp [Lib.compareBytes, Op.bytesLess]
  | [], y :: b => by simp [Lib.compareBytes, Op.bytesLess]
  | x :: a, [] => by simp [Lib.compareBytes, Op.bytesLess]
  | x :: a, y :: b => by
    obtain ⟨h1, h2⟩ := cmp_neg a b
    unfold Lib.compareBytes Op.bytesLess
    by_cases h : x < y
    · rw [if_pos h]
      have hne : x ≠ y := fun e => by subst e; exact absurd h (UInt8.lt_irrefl x)
      simp [h, hne]
    · rw [if_neg h]
      by_cases h' : y < x
      · rw [if_pos h']
        have hne : x ≠ y := fun e => by subst e; exact absurd h' (UInt8.lt_irrefl x)
        simp [h, hne]
      · rw [if_neg h']
        have he : x = y := by
          rcases UInt8.lt_or_lt_of_ne (a := x) (b := y) |> fun f => Classical.em (x = y) with e | e
          · exact e
          · rcases UInt8.lt_or_lt_of_ne e with e | e
            · exact absurd e h
            · exact absurd e h'
        subst he
        rw [h1]
        simp [h2]

/-- A key against another. -/
def kcm (a b : ByteArray) : Int := Lib.compareBytes a.data.toList b.data.toList

theorem kcm_neg (a b : ByteArray) : kcm a b < 0 ↔ Tm.lt a b = true := by
  unfold kcm Tm.lt
  rw [(cmp_neg _ _).1, Tm.less_before]

theorem kcm_zero (a b : ByteArray) : kcm a b = 0 ↔ a = b := by
  unfold kcm
  rw [(cmp_neg _ _).2]
  exact ⟨Bm.ba_eq, fun e => by rw [e]⟩

set_option maxHeartbeats 1000000 in
set_option maxRecDepth 100000 in
theorem cmpB_any (a b : ByteArray) (w : World) : Calls Tryz.prog 208 #[.string a, .string b] w fun E w' => E = .returned (.int .i64 (kcm a b)) ∧ w = w' := by
  unfold kcm
  go_enter Tryz.func208, Tryz.ntmps208
  go_wp2
  rw [run_callFunc_extern Tryz.func225 (by kernel_rfl) (by kernel_rfl) (by kernel_rfl) (e := Extern.BytealgCompare.compare) (by kernel_rfl), Lib.run_compareString]
  simp only [Result.andThen]
  rw [Oper.upon_value]
  go_wp2
  go_ret
  exact ⟨rfl, rfl⟩

theorem cmpS_any (a b : ByteArray) (w : World) : Calls Tryz.prog 193 #[.string a, .string b] w fun E w' => E = .returned (.int .i64 (kcm a b)) ∧ w = w' := by
  go_enter Tryz.func193, Tryz.ntmps193
  go_wp2_with fail
  refine (cmpB_any a b w).mono ?_
  rintro E w' ⟨rfl, rfl⟩
  go_wp2
  go_ret
  exact ⟨rfl, rfl⟩

theorem against_any (p : Bool) (k v key : ByteArray) (w : World) : Calls Tryz.prog 155 #[.agg #[.bool p, .string k, .string v], .string key] w fun E w' => E = .returned (.int .i64 (kcm k key)) ∧ Below w.heap.size w w' := by
  obtain ⟨w1, hw1, sz1, bel1, hB⟩ := blk_step w #[.bool p, .string k, .string v] 81
  have c1 := blk_cell hB 1 rfl
  clear hB
  go_enter Tryz.func155, Tryz.ntmps155
  go_wp2_with fail
  refine (cmpS_any k key _).mono ?_
  rintro E w' ⟨rfl, rfl⟩
  go_wp2
  go_ret
  exact ⟨rfl, bel1⟩

theorem Tryz.enters155 : ∀ args w, (callFunc 155 args).run Tryz.prog w = .ok (.enter 155 args) w := enters_of Tryz.func155 (by kernel_rfl) rfl

/-- Between the two ends. -/
def Bin (l : List Ov) (key : ByteArray) (i j : Nat) : Prop := (∀ t o, t < i → l[t]? = some o → kcm o.k key < 0) ∧ ∀ t o, j ≤ t → l[t]? = some o → 0 ≤ kcm o.k key

theorem up_at {l : List Ov} (hu : Tm.Up l) {s t : Nat} {o q : Ov} (hs : l[s]? = some o) (ht : l[t]? = some q) (h : s < t) : Tm.lt o.k q.k = true := by
  obtain ⟨h1, rfl⟩ := List.getElem?_eq_some_iff.1 hs
  obtain ⟨h2, rfl⟩ := List.getElem?_eq_some_iff.1 ht
  exact List.pairwise_iff_getElem.1 hu s t h1 h2 h

theorem Bin.left {l : List Ov} {key : ByteArray} {i j m : Nat} {o : Ov} (h : Bin l key i j) (hu : Tm.Up l) (hm : l[m]? = some o) (hc : kcm o.k key < 0) : Bin l key (m + 1) j := by
  refine ⟨fun t q ht hq => ?_, h.2⟩
  by_cases e : t = m
  · subst e
    rw [hm] at hq
    cases hq
    exact hc
  · exact (kcm_neg _ _).2 (Tm.lt_trans (up_at hu hq hm (by omega)) ((kcm_neg _ _).1 hc))

theorem Bin.right {l : List Ov} {key : ByteArray} {i j m : Nat} {o : Ov} (h : Bin l key i j) (hu : Tm.Up l) (hm : l[m]? = some o) (hc : ¬ kcm o.k key < 0) : Bin l key i m := by
  refine ⟨h.1, fun t q ht hq => ?_⟩
  by_cases e : t = m
  · subst e
    rw [hm] at hq
    cases hq
    omega
  · refine Int.not_lt.1 fun hn => hc ((kcm_neg _ _).2 (Tm.lt_trans (up_at hu hm hq (by omega)) ((kcm_neg _ _).1 hn)))

theorem Bin.found {l : List Ov} {key : ByteArray} {i : Nat} {o : Ov} (hu : Tm.Up l) (ho : l[i]? = some o) (hc : kcm o.k key = 0) : Tm.get l key = some o := by
  rw [← (kcm_zero _ _).1 hc]
  exact Tm.get_mem hu (List.mem_of_getElem? ho)

theorem Bin.lost {l : List Ov} {key : ByteArray} {i : Nat} (h : Bin l key i i) (hu : Tm.Up l) (hc : ∀ o, l[i]? = some o → ¬ kcm o.k key = 0) : Tm.get l key = none := by
  refine List.find?_eq_none.2 fun x hx => ?_
  obtain ⟨t, ht⟩ := List.getElem?_of_mem hx
  simp only [decide_eq_true_eq]
  intro e
  have hz := (kcm_zero _ _).2 e
  by_cases h1 : t < i
  · have := h.1 t x h1 ht
    omega
  · by_cases h2 : t = i
    · subst h2
      exact hc x ht hz
    · have hlt : i < t := by omega
      obtain ⟨q, hq⟩ : ∃ q, l[i]? = some q := by
        have := (List.getElem?_eq_some_iff.1 ht).1
        exact ⟨l[i]'(by omega), by rw [List.getElem?_eq_getElem]⟩
      have h3 := h.2 i q (Nat.le_refl _) hq
      have h4 := up_at hu hq ht hlt
      rw [e] at h4
      have := (kcm_neg _ _).2 h4
      omega

set_option maxRecDepth 20000 in
set_option maxHeartbeats 4000000 in
theorem bsearch_any (v : Value) (l : List Ov) (key : ByteArray) (w : World) (h : IsO w v l) (hu : Tm.Up l) (hl : l.length ≤ 1024) :
    Calls Tryz.prog 154 #[v, .string key, .func (.func 155) #[] #[]] w fun E w' => ∃ (i : Nat) (f : Bool), E = .returned (.tuple #[.int .i64 i, .bool f]) ∧ Below w.heap.size w w' ∧ Hid ((f = true ∧ ∃ o, l[i]? = some o ∧ Tm.get l key = some o) ∨ (f = false ∧ Tm.get l key = none)) := by
  obtain ⟨ao, cap, hsv, hcap, _⟩ := h.shape
  have HFULL := hide fun (h0 : 0 < l.length) => h.full h0
  subst hsv
  obtain ⟨n, hnn⟩ : ∃ n, l.length = n := ⟨_, rfl⟩
  rw [hnn] at HFULL hcap hl ⊢
  have HN := hide hnn
  have HU := hide hu
  have hent := Tryz.enters155
  clear h hnn hu
  go_enter Tryz.func154, Tryz.ntmps154
  go_wp2
  go_loopw [9, 10] (fun iv jv wr => ∃ (i j : Nat), i ≤ j ∧ j ≤ n ∧ iv = .int .i64 i ∧ jv = .int .i64 j ∧ Hid (Bin l key i j) ∧ Below w.heap.size w wr) (fun iv jv _ => (intOf jv).toNat - (intOf iv).toNat)
  case atStart => exact ⟨0, n, by omega, by omega, rfl, rfl, hide ⟨fun t o ht => by omega, fun t o ht ho => by have := (List.getElem?_eq_some_iff.1 ho).1; have := HN.out; omega⟩, Below.refl _ _⟩
  case round =>
    obtain ⟨i, j, hij, hjn, rfl, rfl, HB, bel⟩ := hrel
    have sz := bel.size
    by_cases hlt : i < j
    · obtain ⟨m, hm⟩ : ∃ m, m = (i + j) / 2 := ⟨_, rfl⟩
      obtain ⟨o, ho⟩ : ∃ o, l[m]? = some o := ⟨l[m]'(by have := HN.out; omega), by rw [List.getElem?_eq_getElem]⟩
      obtain ⟨b1, o1, cq, hvx, _, _, hB, hcell⟩ := HFULL.out (by omega)
      simp only [Value.slice.injEq, true_and] at hvx
      obtain ⟨rfl, rfl⟩ := hvx
      obtain ⟨c0, c1, c2⟩ := hcell m o ho
      have d0 := (bel.cell (p := ⟨b1, o1 + m * 3, none⟩) hB).trans c0
      have d1 := (bel.cell (p := ⟨b1, o1 + m * 3 + 1, none⟩) hB).trans c1
      have d2 := (bel.cell (p := ⟨b1, o1 + m * 3 + 2, none⟩) hB).trans c2
      rw [hm] at d0 d1 d2
      have HO := hide ho
      have hlt' : (i : Int) < j := by omega
      have hmn : ((i : Int) + j) / 2 < n := by omega
      have HM := hide hm
      have HC := hide (fun W => against_any o.p o.k o.v key W)
      obtain ⟨cc, hcc⟩ : ∃ c, kcm o.k key = c := ⟨_, rfl⟩
      rw [hcc] at HC
      have HCC := hide hcc
      clear c0 c1 c2 ho hcell hm hcc
      by_cases hneg : cc < 0
      · have HB2 := hide (HB.out.left HU.out HO.out (by rw [HCC.out]; exact hneg))
        go_wp2_with (go_at_fn 155; refine (HC.out _).mono ?_; rintro E w1 ⟨rfl, bel1⟩)
        have bel2 := bel.trans (bel1.mono sz)
        clear bel1
        go_wp2
        go_roundw
        case rel => exact ⟨m + 1, j, by have := HM.out; omega, hjn, by have := HM.out; congr 1; omega, rfl, HB2, bel2⟩
        case measure => simp [intOf]; have := HM.out; omega
      · have HB2 := hide (HB.out.right HU.out HO.out (by rw [HCC.out]; exact hneg))
        go_wp2_with (go_at_fn 155; refine (HC.out _).mono ?_; rintro E w1 ⟨rfl, bel1⟩)
        have bel2 := bel.trans (bel1.mono sz)
        clear bel1
        go_wp2
        go_roundw
        case rel => exact ⟨i, m, by have := HM.out; omega, by have := HM.out; omega, rfl, by have := HM.out; congr 1; omega, HB2, bel2⟩
        case measure => simp [intOf]; have := HM.out; omega
    · obtain rfl : j = i := by omega
      by_cases hin : j < n
      · obtain ⟨o, ho⟩ : ∃ o, l[j]? = some o := ⟨l[j]'(by have := HN.out; omega), by rw [List.getElem?_eq_getElem]⟩
        obtain ⟨b1, o1, cq, hvx, _, _, hB, hcell⟩ := HFULL.out (by omega)
        simp only [Value.slice.injEq, true_and] at hvx
        obtain ⟨rfl, rfl⟩ := hvx
        obtain ⟨c0, c1, c2⟩ := hcell j o ho
        have d0 := (bel.cell (p := ⟨b1, o1 + j * 3, none⟩) hB).trans c0
        have d1 := (bel.cell (p := ⟨b1, o1 + j * 3 + 1, none⟩) hB).trans c1
        have d2 := (bel.cell (p := ⟨b1, o1 + j * 3 + 2, none⟩) hB).trans c2
        have HO := hide ho
        have hin' : (j : Int) < n := by omega
        have HC := hide (fun W => against_any o.p o.k o.v key W)
        obtain ⟨cc, hcc⟩ : ∃ c, kcm o.k key = c := ⟨_, rfl⟩
        rw [hcc] at HC
        have HCC := hide hcc
        clear c0 c1 c2 ho hcell hcc
        obtain ⟨f, hf⟩ : ∃ f, (cc == 0) = f := ⟨_, rfl⟩
        have FIN : Hid ((f = true ∧ ∃ o, l[j]? = some o ∧ Tm.get l key = some o) ∨ (f = false ∧ Tm.get l key = none)) := hide (by
          by_cases hz : cc = 0
          · exact .inl ⟨by rw [← hf]; simp [hz], o, HO.out, Bin.found HU.out HO.out (by rw [HCC.out]; exact hz)⟩
          · refine .inr ⟨by rw [← hf]; simp [hz], HB.out.lost HU.out fun q hq => ?_⟩
            rw [HO.out] at hq
            cases hq
            rw [HCC.out]
            exact hz)
        go_wp2_with (go_at_fn 155; refine (HC.out _).mono ?_; rintro E w1 ⟨rfl, bel1⟩)
        have bel2 := bel.trans (bel1.mono sz)
        clear bel1
        go_wp2
        go_ret2
        exact ⟨j, f, rfl, bel2, FIN⟩
      · have hin' : ¬ (j : Int) < n := by omega
        have FIN : Hid (((false : Bool) = true ∧ ∃ o, l[j]? = some o ∧ Tm.get l key = some o) ∨ ((false : Bool) = false ∧ Tm.get l key = none)) := hide (.inr ⟨rfl, HB.out.lost HU.out fun q hq => by have := (List.getElem?_eq_some_iff.1 hq).1; have := HN.out; omega⟩)
        go_wp2
        go_ret2
        have NN : Hid (Tm.get l key = none) := hide (by rcases FIN.out with ⟨h, _⟩ | ⟨_, h⟩; cases h; exact h)
        first | exact ⟨j, false, rfl, bel, FIN⟩ | exact ⟨j, .inl ⟨rfl, bel, NN⟩⟩

end Go.Proofs.YthmecljkackmbaaGreat

/- slices.Backward of runs: what its iterator yields. -/
namespace Go.Proofs.YthmecljkackmbaaGreat
open Go.RowKit Go.Shelf
set_option linter.unusedVariables false
attribute [local go_sem] Oper.semAt_some

/-- The first k places from the end on. -/
def dn (L : Nat) : Nat → List (Nx L)
  | 0 => []
  | k + 1 => dn L k ++ (if h : k < L then [⟨L - 1 - k, by omega⟩] else [])

theorem dn_next (L k : Nat) (h : k < L) : dn L (k + 1) = dn L k ++ [⟨L - 1 - k, by omega⟩] := by rw [dn, dif_pos h]

theorem dn_len (L : Nat) : ∀ k, k ≤ L → (dn L k).length = k
  | 0, _ => rfl
  | k + 1, h => by
    rw [dn_next L k (by omega), List.length_append, dn_len L k (by omega)]
    rfl

/-- A run of the row, as a value. -/
def ptc (rs : List Cw) (x : Nx rs.length) : Cw := rs[x.1]'x.2
def cvv (c : Cw) : Value := .agg #[.int .i64 c.e, .int .i64 c.n, c.v]

set_option maxRecDepth 100000 in
set_option maxHeartbeats 4000000 in
theorem back_one (n : Nat) (hn : 1 ≤ n) (l B : Nat) (rs : List Cw) (sv : Value) (S : Nat → Prop) (hSB : S B) (hSv : ∀ b, sv.ownBlock = some b → S b) (hLm : rs.length ≤ 1048576) (J Jx : List (Nx rs.length) → World → Prop) (W : World) (hSW : ∀ g, S g → g < W.heap.size) (hJ : AbidesFrom W.heap.size J)
    (hY : ∀ pre x W1, J pre W1 → pre.length < rs.length → YieldAt Fence.wide (n - 1) Tryz.prog l #[.int .i64 x.1, cvv (ptc rs x)] W1 fun e W' => (e = .returned (.bool true) ∧ J (pre ++ [x]) W' ∧ Kn S W1 W') ∨ (e = .returned (.bool false) ∧ Jx (pre ++ [x]) W'))
    (hB : W.cell? ⟨B, 0, none⟩ = some sv) (his : RowC W sv rs) (h0 : J [] W) :
    CallsIn Fence.wide n Tryz.prog 192 #[.func (.yield l) #[] #[], .pointer (some ⟨B, 0, none⟩)] W fun e W' => (∃ v, e = .returned v) ∧ ((∃ xs, xs = dn rs.length rs.length ∧ J xs W') ∨ (∃ pre, (∃ k, k ≤ rs.length ∧ pre = dn rs.length k) ∧ Jx pre W')) := by
  have hro : Fence.wide.round = none := rfl
  obtain ⟨ao, cap, hsv, hcap, hcm⟩ := his.shape
  have HFULL := hide fun (h0 : 0 < rs.length) => his.full h0
  subst hsv
  have HSW := hide hSW
  have HJ0 := hide hJ
  have HY := hide hY
  have hw0 : IntKind.i64.wrap ((rs.length : Int) - 1) = (rs.length : Int) - 1 := wrap_i64_small _ (by omega) (by omega)
  clear his hSW hJ hY
  refine callsIn_of_wp Tryz.func192 rfl trivial ?_ hro
  simp only [Tryz.ntmps192, List.size_toArray, List.length_cons, List.length_nil, Nat.reduceAdd, Nat.reduceSub, Array.replicate_succ, Array.replicate_zero, List.push_toArray, List.append_toArray, List.nil_append, List.cons_append]
  gi_wp2
  gi_loopw [3] (fun iv wr => ∃ (k : Nat) (z : Int), k ≤ rs.length ∧ iv = .int .i64 z ∧ z = (rs.length : Int) - 1 - k ∧ Hid (J (dn rs.length k) wr) ∧ Kn S W wr) (fun iv _ => (intOf iv + 1).toNat)
  case atStart => exact ⟨0, (rs.length : Int) - 1, Nat.zero_le _, rfl, by omega, h0, fun _ _ => rfl⟩
  case round =>
    obtain ⟨k, z, hk, rfl, hz, HJ, hK⟩ := hrel
    have hbx := (cell_of_blk (hK B hSB) 0).trans hB
    by_cases hlt : k < rs.length
    · obtain ⟨i, hi⟩ : ∃ i, rs.length - 1 - k = i := ⟨_, rfl⟩
      have hil : i < rs.length := by omega
      obtain rfl : z = (i : Int) := by omega
      obtain ⟨b, off, cq, hvx, _, _, hb, hcell⟩ := HFULL.out (by omega)
      simp only [Value.slice.injEq, true_and] at hvx
      obtain ⟨rfl, rfl⟩ := hvx
      obtain ⟨c, hc⟩ : ∃ c, ptc rs ⟨i, hil⟩ = c := ⟨_, rfl⟩
      have hc' : rs[i]? = some c := by rw [List.getElem?_eq_getElem hil, ← hc]; rfl
      obtain ⟨c0, c1, c2⟩ := hcell i c hc'
      have hkb := hK b (hSv b rfl)
      have d0 := (cell_of_blk hkb (off + i * 3)).trans c0
      have d1 := (cell_of_blk hkb (off + i * 3 + 1)).trans c1
      have d2 := (cell_of_blk hkb (off + i * 3 + 2)).trans c2
      have HJN : Hid (∀ W3, J (dn rs.length k ++ [⟨i, hil⟩]) W3 → J (dn rs.length (k + 1)) W3) := hide fun W3 h => by
        rw [dn_next _ k hlt]
        subst hi
        exact h
      have HJX : Hid (∀ W3, Jx (dn rs.length k ++ [⟨i, hil⟩]) W3 → Jx (dn rs.length (k + 1)) W3) := hide fun W3 h => by
        rw [dn_next _ k hlt]
        subst hi
        exact h
      obtain ⟨fn, tmps, assign, body, hy, hR⟩ := HY.out _ ⟨i, hil⟩ wr HJ.out (by rw [dn_len _ k hk]; omega)
      rw [hc] at hy
      unfold cvv at hy
      have hlt' : (i : Int) < rs.length := by omega
      have hi0 : (0 : Int) ≤ (i : Int) := by omega
      have hw1 : IntKind.i64.wrap ((i : Int) - 1) = (i : Int) - 1 := wrap_i64_small _ (by omega) (by omega)
      have HR := hide hR
      have HK := hide hK
      have HI := hide hi
      clear hR hcell hSv hK c0 c1 c2 hkb hc hc' hz hi
      gi_wp2
      refine HR.out.mono ?_
      rintro e W3 (⟨rfl, hJ3, hk3⟩ | ⟨rfl, hJx3⟩)
      · have hJ4 : Hid (J (dn rs.length (k + 1)) W3) := hide (HJN.out W3 hJ3)
        have hK4 := HK.out.trans hk3
        clear hJ3
        gi_wp2
        go_roundw
        case rel => exact ⟨k + 1, (i : Int) - 1, by omega, by go_num, by have := HI.out; omega, hJ4, hK4⟩
        case measure => simp [intOf]
      · have hJ4 : Hid (Jx (dn rs.length (k + 1)) W3) := hide (HJX.out W3 hJx3)
        clear hJx3
        gi_wp2
        refine bodyPost_ret (results_none rfl _ _ _) rfl ?_
        exact ⟨⟨_, rfl⟩, .inr ⟨_, ⟨k + 1, by omega, rfl⟩, hJ4.out⟩⟩
    · obtain rfl : k = rs.length := by omega
      have hz' : ¬ (0 : Int) ≤ z := by omega
      clear hz
      gi_wp2
      go_end0
      exact ⟨⟨_, rfl⟩, .inl HJ.out⟩

theorem back_any (v : Value) (hv : ∃ a n c, v = .slice a n c) (w : World) : Calls Tryz.prog 153 #[v] w fun e w' => e = .returned (.func (.func 192) #[] #[.pointer (some ⟨w.heap.size, 0, none⟩)]) ∧ w' = w.alloc (.cells #[v] 69) := by
  obtain ⟨a, n, c, rfl⟩ := hv
  go_enter Tryz.func153, Tryz.ntmps153
  go_wp2
  go_ret
  exact ⟨rfl, rfl⟩

/-- The blocks that the iterator reads. -/
def SeqBB (B : Nat) (sv : Value) (g : Nat) : Prop := g = B ∨ sv.ownBlock = some g

theorem back_seq (n : Nat) (hn : 1 ≤ n) (B : Nat) (rs : List Cw) (sv : Value) (w : World) (hB : w.cell? ⟨B, 0, none⟩ = some sv) (hlt : ∀ g, SeqBB B sv g → g < w.heap.size) (his : RowC w sv rs) (hLm : rs.length ≤ 1048576) :
    SeqStopsK Fence.wide n Tryz.prog 192 #[.pointer (some ⟨B, 0, none⟩)] (fun x : Nx rs.length => #[.int .i64 x.1, cvv (ptc rs x)]) (Kn (SeqBB B sv)) (fun xs => xs = dn rs.length rs.length) (fun pre => ∃ k, k ≤ rs.length ∧ pre = dn rs.length k) rs.length w := fun l J Jx W hW hJ hJx hY h0 =>
  back_one n hn l B rs sv (SeqBB B sv) (.inl rfl) (fun b hb => .inr hb) hLm J Jx W (fun g hg => Nat.lt_of_lt_of_le (hlt g hg) hW.size) hJ hY ((hW.cell (p := ⟨B, 0, none⟩) (hlt B (.inl rfl))).trans hB) (his.below hW) h0

end Go.Proofs.YthmecljkackmbaaGreat
