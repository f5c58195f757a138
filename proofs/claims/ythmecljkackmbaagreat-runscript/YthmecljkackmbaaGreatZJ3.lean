/- Texts of one layer, one behind the other. -/
import Derived.Test.YthmecljkackmbaaGreatZ17
import Derived.Test.YthmecljkackmbaaGreatZJ1
import Derived.Test.YthmecljkackmbaaGreatZD2
import Derived.Test.YthmecljkackmbaaGreatZH2
import Derived.Test.YthmecljkackmbaaGreatZH3
import Derived.Test.YthmecljkackmbaaGreatZ18
import Derived.Test.YthmecljkackmbaaGreatZH4
import Derived.Deep.RegionHeld3
import Derived.Deep.RegionLaw
/- 'append' to a row of commits or runs, and where it lies then. No program. -/
namespace Go.Proofs.YthmecljkackmbaaGreat
open Go.RowKit
set_option linter.unusedVariables false

section
variable {P : Program} {w : World} {ops : Array Oper} {rest : List Oper} {o : Oper} {a : Act} {Q : Exit → Act → World → Prop}

/-- 'append' to a row of commits, and where it lies then. -/
theorem wpList_append_comsB (hgd : o.guard = none) (s x : Operand) (t : TypeId)
    (ho : o.op = .call { callee := .builtin .append, args := #[s, x], argTypes := #[t, t] })
    (e : TypeId) (base : Nat) (ht : P.underlying t = some (.slice e)) (hinfo : (P.info? e).map (fun i => (i.zero, i.size, i.bytes)) = some (some (.agg #[.int .i64 0, .int .i64 0, .slice none 0 0]), 3, 40))
    (v : Value) (l : List Cw) (hs : a.eval s = v) (hown : OwnR e base w v l) (vx : Value) (m : List Cw) (hx : a.eval x = vx) (his : RowC w vx m) (hone : ∀ c ∈ m, c.v.oneCell' = true)
    (hlen : (l.length + m.length) * 40 ≤ 140737488355328) (hbase : base ≤ w.heap.size)
    (h : ∀ v' w', OwnR e base w' v' (l ++ m) → w.grownBy w' v.ownBlock → (v'.ownBlock = v.ownBlock ∨ v'.ownBlock = some w.heap.size) → wpList P ops Q rest (a.put o.dst v') w') : wpList P ops Q (o :: rest) a w := by
  obtain ⟨v', w', hr, h1, h2, h3⟩ := run_append_coms_at (P := P) (w := w) t o.type e base ht hinfo v l hown vx m his hone hlen hbase
  refine wpList_plain hgd fun _ hK => ?_
  unfold Oper.wp execOp
  simp only [ho, resolve, invoke, builtin, Sem.run_bind, Sem.run_pure, Result.andThen_ok, List.map_toArray, List.map_cons, List.map_nil, hs, hx, hr]
  exact hK _ _ (h v' w' h1 h2 h3)

end

end Go.Proofs.YthmecljkackmbaaGreat

/- The document's runs: a file is trimmed, runs are read out of bytes. -/
namespace Go.Proofs.YthmecljkackmbaaGreat
open Go.RowKit
open Bm (Ov)
set_option linter.unusedVariables false

set_option maxHeartbeats 1000000 in
theorem trimR_two (q : Nat) (F : Nat → Prop) (w : World) (st : Dm.Ds) (n : Nat) (h : Dk q F w st) (hs : Big 100000000 800000 st) :
    Calls Tryz.prog 65 #[.pointer (some ⟨q, 0, none⟩), .int .i64 2, .int .i64 n] w fun E w' => E = .returned (.int .i64 (Rl.trm st n).1) ∧ DStep q F w w' (Rl.trm st n).2 := by
  have HH := hide (holdsR_any q F w st 2 h (by decide) (Nat.le_trans (hs.1.1 2) (by decide)) (Nat.le_trans hs.1.2.1 (by decide)))
  have HD := hide h
  have hs2 := big_cut hs 2 n
  have HC : Hid (∀ W, Below w.heap.size w W → Calls Tryz.prog 135 #[.pointer (some ⟨q, 0, none⟩), .int .i64 2, .int .i64 n] W fun E w' => E = .returned (.int .i64 (Dm.cutD st 2 n).1) ∧ DStep q F w w' (Dm.cutD st 2 n).2) := hide fun W hW => by
    refine (cutR_any q F W st 2 n (h.below hW) (fun f => Nat.le_trans (hs.1.1 f) (by decide)) (Nat.le_trans hs.1.2.1 (by decide)) hs.2 (Nat.lt_of_le_of_lt hs.1.2.2 (by decide))).mono ?_
    rintro E w' ⟨rfl, k⟩
    exact ⟨rfl, DStep.pre hW k⟩
  have HS : Hid (∀ W, DStep q F w W (Dm.cutD st 2 n).2 → Calls Tryz.prog 136 #[.pointer (some ⟨q, 0, none⟩)] W fun E w' => E = .returned (.int .i64 (Dm.sync (Dm.cutD st 2 n).2).1) ∧ DStep q F w w' (Dm.sync (Dm.cutD st 2 n).2).2) := hide fun W hW => by
    obtain ⟨F2, k1, k2, k3⟩ := hW
    refine (syncR_any q F2 W _ k1 (fun f => Nat.le_trans (hs2.1.1 f) (by decide)) (Nat.le_trans hs2.1.2.1 (by decide)) hs2.2 (Nat.lt_of_le_of_lt hs2.1.2.2 (by decide))).mono ?_
    rintro E w' ⟨rfl, k⟩
    exact ⟨rfl, DStep.trans k2 k3 k⟩
  have eh : Dm.hold 2 (st.sure 2) st.wait = Rl.hld st := rfl
  rw [eh] at HH
  unfold Rl.trm
  generalize hl : (Rl.hld st).length = z at *
  have HZ := hide hl
  clear h hs hs2 hl eh
  by_cases hz : z = n
  · rw [if_pos hz]
    have hb : ((z : Int) == (n : Int)) = true := by simp [hz]
    go_enter Tryz.func65, Tryz.ntmps65
    go_wp2_with fail
    refine HH.out.mono ?_
    rintro E w1 ⟨v, rfl, own, bel⟩
    obtain ⟨a, c, hv, _, _⟩ := own.is.shape
    rw [HZ.out] at hv
    subst hv
    have DS := hide (DStep.same HD.out bel)
    clear own bel HH HC HS
    go_wp2
    go_ret
    exact ⟨rfl, DS.out⟩
  · rw [if_neg hz]
    have hb : ((z : Int) == (n : Int)) = false := by simp; omega
    generalize Dm.cutD st 2 n = x at *
    obtain ⟨e, st2⟩ := x
    simp only at *
    generalize Dm.sync st2 = y at *
    obtain ⟨f, st3⟩ := y
    simp only at *
    by_cases he : e = 0
    · subst he
      by_cases hf : f = 0
      · subst hf
        simp only [ne_eq, not_true, if_false]
        go_enter Tryz.func65, Tryz.ntmps65
        go_wp2_with fail
        refine HH.out.mono ?_
        rintro E w1 ⟨v, rfl, own, bel⟩
        obtain ⟨a, c, hv, _, _⟩ := own.is.shape
        rw [HZ.out] at hv
        subst hv
        have HC1 := hide (HC.out w1 bel)
        clear own bel HH HC
        go_wp2_with fail
        refine HC1.out.mono ?_
        rintro E w2 ⟨rfl, D2⟩
        have HS1 := hide (HS.out w2 D2)
        clear D2 HS HC1
        go_wp2_with fail
        refine HS1.out.mono ?_
        rintro E w3 ⟨rfl, D3⟩
        have J := hide D3
        go_wp2
        go_ret
        exact ⟨rfl, J.out⟩
      · have hfb : (f != 0) = true := by simp [hf]
        simp only [ne_eq, not_true, if_false, hf, not_false_eq_true, if_true]
        go_enter Tryz.func65, Tryz.ntmps65
        go_wp2_with fail
        refine HH.out.mono ?_
        rintro E w1 ⟨v, rfl, own, bel⟩
        obtain ⟨a, c, hv, _, _⟩ := own.is.shape
        rw [HZ.out] at hv
        subst hv
        have HC1 := hide (HC.out w1 bel)
        clear own bel HH HC
        go_wp2_with fail
        refine HC1.out.mono ?_
        rintro E w2 ⟨rfl, D2⟩
        have HS1 := hide (HS.out w2 D2)
        clear D2 HS HC1
        go_wp2_with fail
        refine HS1.out.mono ?_
        rintro E w3 ⟨rfl, D3⟩
        have J := hide D3
        go_wp2
        go_ret
        exact ⟨rfl, J.out⟩
    · have heb : (e != 0) = true := by simp [he]
      simp only [ne_eq, he, not_false_eq_true, if_true]
      go_enter Tryz.func65, Tryz.ntmps65
      go_wp2_with fail
      refine HH.out.mono ?_
      rintro E w1 ⟨v, rfl, own, bel⟩
      obtain ⟨a, c, hv, _, _⟩ := own.is.shape
      rw [HZ.out] at hv
      subst hv
      have HC1 := hide (HC.out w1 bel)
      clear own bel HH HC
      go_wp2_with fail
      refine HC1.out.mono ?_
      rintro E w2 ⟨rfl, D2⟩
      have J := hide D2
      clear HS HC1
      go_wp2
      go_ret
      exact ⟨rfl, J.out⟩

set_option maxRecDepth 20000 in
set_option maxHeartbeats 4000000 in
theorem xscan_any (vb : Value) (bs : List Int) (w : World) (hb : Is .u8 w vb bs) (hl : bs.length ≤ 1000000000) :
    Calls Tryz.prog 63 #[vb] w fun E w' => ∃ (l : List Cm.Cv) (v : Value) (rs : List Cw), E = .returned (.tuple #[v, .int .i64 (Rl.lgb l).length]) ∧ Rq w.heap.size w' l v rs ∧ Below w.heap.size w w' ∧ Hid (Rl.Lg 0 bs l) := by
  have HB := hide hb
  obtain ⟨ba, bc, hvb, _, _⟩ := hb.shape
  have Q0 : Hid (RdS bs [] ∧ Rq w.heap.size w [] (.slice none 0 0) [] ∧ Below w.heap.size w w) := hide ⟨RdS.nil _, Rq.nil _ _, Below.refl _ _⟩
  clear hb
  subst hvb
  go_enter Tryz.func63, Tryz.ntmps63
  go_wp2
  go_loopw [4, 5, 6] (fun lv gv ev wr => ∃ (l : List Cm.Cv) (n : Nat) (rs : List Cw) (z : Int), gv = .int .i64 n ∧ n = (Rl.lgb l).length ∧ ev = .int .i64 z ∧ Hid (z = Cm.lastN 0 l) ∧ Hid (RdS bs l ∧ Rq w.heap.size wr l lv rs ∧ Below w.heap.size w wr)) (fun _ gv _ _ => bs.length - (intOf gv).toNat)
  case atStart => exact ⟨[], 0, [], 0, rfl, rfl, rfl, hide rfl, Q0⟩
  case round =>
    clear Q0
    obtain ⟨l, n, rs, ze, rfl, hn, rfl, HZE, RS⟩ := hrel
    obtain ⟨sa, sn, sk, hsv⟩ : ∃ a n k, u4 = .slice a n k := by
      obtain ⟨a1, k1, h1, _⟩ := RS.out.2.1.row.row.shape
      exact ⟨a1, _, k1, h1⟩
    subst hsv
    have hle := RS.out.1.le
    have szr := RS.out.2.2.size
    have HN := hide hn
    rw [← hn] at hle
    obtain ⟨vs, hsl, isl⟩ := (HB.out.below RS.out.2.2).slice_l Tryz.elemB3 Tryz.sizeB3 n hle
    have HF := hide (freadR_any vs _ wr isl (by rw [List.length_drop]; omega))
    clear isl hn
    go_wp2_with fail
    refine HF.out.mono ?_
    rintro E wa ⟨v1, z, k, e, rfl, own1, bel1, R⟩
    have sza := bel1.size
    have RA := hide (show RdS bs l ∧ Rq w.heap.size wa l (.slice sa sn sk) rs ∧ Below w.heap.size w wa from ⟨RS.out.1, RS.out.2.1.below bel1, RS.out.2.2.trans (bel1.mono szr)⟩)
    clear HF RS hsl
    have R' : Hid (Fm.Rd (bs.drop (Rl.lgb l).length) z k e) := hide (by rw [← HN.out]; exact R.out)
    clear R
    have R := R'
    clear R'
    have he : e = 0 ∨ e = 5 := by
      rcases R.out with h | h
      · exact .inl h.1
      · exact .inr h.1
    rcases he with rfl | rfl
    · have hzl : z.length ≤ 131072 := (rds_zero R.out).1
      have HD := hide (hdecR_any v1 z wa own1.is (by omega))
      obtain ⟨o1, k1, hv1, _, _⟩ := own1.is.shape
      subst hv1
      clear own1 bel1
      go_wp2_with fail
      refine HD.out.mono ?_
      rintro E wb ⟨ee, nn, g, vo, ops, rfl, ownc, hcr, bel2⟩
      have szb := bel2.size
      have hgg := Rn.dc_e hcr.out
      obtain ⟨oa, on, ok, hvo⟩ : ∃ a n k, vo = .slice a n k := by
        obtain ⟨a1, k1, h1, _⟩ := ownc.is.shape
        exact ⟨a1, _, k1, h1⟩
      subst hvo
      obtain ⟨wc, hwc, hwc2, szc, belc, bC, x0, x1, x2⟩ := new_step wb 93 (.int .i64 0) (.int .i64 0) (.slice none 0 0) (.int .i64 ee) (.int .i64 nn) (.slice oa on ok)
      have belac := bel2.trans (belc.mono szb)
      have RC := hide (show RdS bs l ∧ Rq w.heap.size wc l (.slice sa sn sk) rs ∧ Below w.heap.size w wc from ⟨RA.out.1, RA.out.2.1.below belac, RA.out.2.2.trans (belac.mono (by omega))⟩)
      have OC := hide (ownc.below belc)
      have HLT : Hid (∀ g, QB (.slice sa sn sk) rs g → g < wb.heap.size) := hide fun g hg => by have := RA.out.2.1.lt g hg; omega
      unfold cmv
      clear RA HD ownc bel2 belac
      rcases hgg with rfl | rfl
      · have hgl := Rl.good_len RC.out.1.1
        have hee : 1 ≤ ee ∧ ee ≤ 1048576 := by
          rcases hcr.out with ⟨_, h1, _⟩ | ⟨h0, _⟩
          · obtain ⟨_, a1, a2, a3, _⟩ := Rn.chk_zero h1
            omega
          · cases h0
        have hwe : IntKind.i64.wrap (ee - 1) = ee - 1 := wrap_i64_small _ (by omega) (by omega)
        by_cases hord : ee - 1 = ze
        · have hob : (ee - 1 != ze) = false := by simp [hord]
          obtain ⟨g1, g2, g3⟩ := RC.out.1.next R.out hcr.out (by rw [← HZE.out]; exact hord)
          obtain ⟨we, hwe', sze, bele, owne⟩ := coms_step 93 wc #[.int .i64 ee, .int .i64 nn, .slice oa on ok] 1 [⟨ee, nn, .slice oa on ok, ops⟩] rfl rfl (by simp [maxLen])
          have RQE := RC.out.2.1.below bele
          have OE := hide (OC.out.below bele)
          have REE := hide RQE
          have hre := RQE.row
          have hze : w.heap.size ≤ we.heap.size := by omega
          have hlen : (rs.length + [(⟨ee, nn, .slice oa on ok, ops⟩ : Cw)].length) * 40 ≤ 140737488355328 := by have := RQE.len_le; simp; omega
          have HG := hide (show RdS bs (l ++ [⟨ee, nn, ops⟩]) ∧ (Rl.lgb (l ++ [⟨ee, nn, ops⟩])).length = n + k ∧ 1 ≤ k from ⟨g1, by rw [g2, HN.out], g3⟩)
          have hkb : n + k ≤ bs.length := by rw [← HG.out.2.1]; exact g1.le
          have hwr := wrap_i64_small ((n : Int) + (k : Int)) (by omega) (by omega)
          have BE := hide (RC.out.2.2.trans (bele.mono (by omega)))
          have bCe := (bele.block wb.heap.size (blk_lt bC)).trans bC
          have rowe := owne.row
          have hone : ∀ c ∈ [(⟨ee, nn, .slice oa on ok, ops⟩ : Cw)], c.v.oneCell' = true := fun c hc => by rw [List.mem_singleton.1 hc]; rfl
          have HOR := hide hord
          have BCE := hide bCe
          have HQL : Hid (∀ g, (Value.slice sa sn sk).ownBlock = some g → g < wb.heap.size) := hide fun g hg => HLT.out g (.inl hg)
          clear g1 g2 RQE RC OC bele owne hcr belc bC hord bCe szc sze
          go_wp2_with (at_builtin; refine wpList_append_comsB rfl (.tmp 39) (.tmp 41) 69 rfl 93 w.heap.size Tryz.underlying69 Tryz.info93 _ rs rfl hre _ [⟨ee, nn, .slice oa on ok, ops⟩] rfl rowe hone hlen hze ?_)
          rintro v7 w7 own7 gr7 at7
          have kp7 : KeepT 93 we w7 := KeepT.of_row hre gr7
          have bel7 : Below w.heap.size we w7 := (Below.refl _ _).grown gr7 hze fun k' hk => (World.ownsRow.lt hre k' hk).1
          have RN := hide (show RdS bs (l ++ [⟨ee, nn, ops⟩]) ∧ Rq w.heap.size w7 (l ++ [⟨ee, nn, ops⟩]) v7 (rs ++ [⟨ee, nn, .slice oa on ok, ops⟩]) ∧ Below w.heap.size w w7 from ⟨HG.out.1, REE.out.grow own7 kp7 (OE.out.rebase (by omega)) HG.out.1.1, BE.out.trans bel7⟩)
          have b7 := (gr7.block wb.heap.size (blk_lt BCE.out) fun e => by have := HQL.out _ e.symm; omega).trans BCE.out
          have y1 := blk_cell b7 1 rfl
          simp only [List.getElem_toArray, List.getElem_cons_zero, List.getElem_cons_succ] at y1
          have HZ7 : Hid (nn = Cm.lastN 0 (l ++ [⟨ee, nn, ops⟩])) := hide (Rl.last_snoc l ⟨ee, nn, ops⟩ 0).symm
          obtain ⟨xa, xn, xk, hx7⟩ : ∃ a n k, v7 = .slice a n k := by
            obtain ⟨a1, k1, h1, _⟩ := own7.row.shape
            exact ⟨a1, _, k1, h1⟩
          subst hx7
          clear own7 kp7 bel7 gr7 at7 b7 hre rowe REE OE BE hlen x0 x1 x2 hwc hwc2 hwe'
          go_wp2
          go_roundw
          case rel => exact ⟨_, n + k, _, nn, by go_num, HG.out.2.1.symm, rfl, HZ7, RN⟩
          case measure => simp [intOf]; omega
        · have hob : (ee - 1 != ze) = true := by simpa using hord
          have G := hide (show Rq w.heap.size wc l (.slice sa sn sk) rs ∧ Below w.heap.size w wc ∧ Hid (Rl.Lg 0 bs l) from ⟨RC.out.2.1, RC.out.2.2, hide (RC.out.1.stopT R.out hcr.out (by rw [← HZE.out]; exact hord))⟩)
          clear RC OC hcr belc bC hord
          go_wp2
          go_ret2
          exact ⟨l, .slice sa sn sk, rs, by rw [← HN.out]; rfl, G.out⟩
      · have G := hide (show Rq w.heap.size wc l (.slice sa sn sk) rs ∧ Below w.heap.size w wc ∧ Hid (Rl.Lg 0 bs l) from ⟨RC.out.2.1, RC.out.2.2, hide (RC.out.1.stopC R.out hcr.out)⟩)
        clear RC OC hcr belc bC
        go_wp2
        go_ret2
        exact ⟨l, .slice sa sn sk, rs, by rw [← HN.out]; rfl, G.out⟩
    · have G := hide (show Rq w.heap.size wa l (.slice sa sn sk) rs ∧ Below w.heap.size w wa ∧ Hid (Rl.Lg 0 bs l) from ⟨RA.out.2.1, RA.out.2.2, hide (RA.out.1.stop R.out)⟩)
      obtain ⟨o1, k1, hv1, _, _⟩ := own1.is.shape
      subst hv1
      clear RA own1 bel1 R
      go_wp2
      go_ret2
      exact ⟨l, .slice sa sn sk, rs, by rw [← HN.out]; rfl, G.out⟩

end Go.Proofs.YthmecljkackmbaaGreat

/- The document's runs and their disk: Open, Flush. -/
namespace Go.Proofs.YthmecljkackmbaaGreat
open Go.RowKit
open Bm (Ov)
set_option linter.unusedVariables false

theorem Tryz.enters160 : ∀ args w, (callFunc 160 args).run Tryz.prog w = .ok (.enter 160 args) w := enters_of Tryz.func160 (by kernel_rfl) rfl

/-- Their own blocks. -/
def XRB (x : Nat) (v : Value) (rs : List Cw) (g : Nat) : Prop := g = x ∨ QB v rs g

section
variable {x y : Nat} {F G : Nat → Prop} {w w' w1 w2 : World} {s s' : Rl.Rs} {l : List Cm.Cv} {bk : Bool} {v : Value} {rs : List Cw}

theorem XrV.lt (h : XrV x y w l bk v rs) : ∀ g, XRB x v rs g → g < w.heap.size := by
  rintro g (rfl | hg)
  · exact blk_lt h.blk
  · exact h.log.lt g hg

theorem XrV.agree (h : XrV x y w l bk v rs) (ha : ∀ g, XRB x v rs g → w'.heap[g]? = w.heap[g]?) : XrV x y w' l bk v rs := ⟨(ha x (.inl rfl)).trans h.blk, h.log.agree fun g hg => ha g (.inr hg)⟩

/-- The document's runs and their disk. -/
def XW (x y : Nat) (F : Nat → Prop) (w : World) (s : Rl.Rs) : Prop := ∃ F1 v rs, Dk y F1 w s.d ∧ XrV x y w s.l s.bk v rs ∧ (∀ g, XRB x v rs g → ¬ F1 g) ∧ F = fun g => F1 g ∨ XRB x v rs g

def XwS (x y : Nat) (F : Nat → Prop) (w w' : World) (s' : Rl.Rs) : Prop := ∃ F', XW x y F' w' s' ∧ Out F w w' ∧ ∀ g, F' g → F g ∨ w.heap.size ≤ g

theorem XW.lt (h : XW x y F w s) : ∀ g, F g → g < w.heap.size := by
  obtain ⟨F1, v, rs, h1, h2, _, rfl⟩ := h
  rintro g (hg | hg)
  · exact h1.lt g hg
  · exact h2.lt g hg
theorem XW.agree (h : XW x y F w s) (ha : ∀ g, F g → w'.heap[g]? = w.heap[g]?) (hs : w.heap.size ≤ w'.heap.size) : XW x y F w' s := by
  obtain ⟨F1, v, rs, h1, h2, h3, rfl⟩ := h
  exact ⟨F1, v, rs, h1.agree (fun g hg => ha g (.inl hg)) hs, h2.agree fun g hg => ha g (.inr hg), h3, rfl⟩
theorem XW.below (h : XW x y F w s) (hb : Below w.heap.size w w') : XW x y F w' s := h.agree (fun g hg => hb.block g (h.lt g hg)) hb.size
theorem XW.out (h : XW x y F w s) (ho : Out G w w') (hd : ∀ g, F g → ¬ G g) : XW x y F w' s := h.agree (fun g hg => ho.block g (h.lt g hg) (hd g hg)) ho.size
theorem XW.good (h : XW x y F w s) : Rl.Good 0 s.l := by
  obtain ⟨F1, v, rs, h1, h2, _, rfl⟩ := h
  exact h2.log.good

theorem XwS.trans {F1 : Nat → Prop} (ho : Out F w w1) (hs : ∀ g, F1 g → F g ∨ w.heap.size ≤ g) (k : XwS x y F1 w1 w2 s') : XwS x y F w w2 s' := by
  obtain ⟨F2, h1, h2, h3⟩ := k
  refine ⟨F2, h1, ho.trans h2 hs, fun g hg => ?_⟩
  rcases h3 g hg with h | h
  · exact hs g h
  · exact .inr (Nat.le_trans ho.size h)
theorem XwS.same (h : XW x y F w s) (hb : Below w.heap.size w w') : XwS x y F w w' s := ⟨F, h.below hb, Out.of_below hb, fun g hg => .inl hg⟩
theorem XwS.pre (hb : Below w.heap.size w w1) (h : XwS x y F w1 w2 s') : XwS x y F w w2 s' := h.trans (Out.of_below hb) fun g hg => .inl hg

/-- The disk alone. -/
theorem XW.disk {F1 : Nat → Prop} {st st' : Dm.Ds} (h1 : Dk y F1 w st) (h2 : XrV x y w l bk v rs) (h3 : ∀ g, XRB x v rs g → ¬ F1 g) (k : DStep y F1 w w' st') :
    ∃ F2, Dk y F2 w' st' ∧ XrV x y w' l bk v rs ∧ (∀ g, XRB x v rs g → ¬ F2 g) ∧ Out F1 w w' ∧ ∀ g, F2 g → F1 g ∨ w.heap.size ≤ g := by
  obtain ⟨F2, k1, k2, k3⟩ := k
  refine ⟨F2, k1, h2.agree fun g hg => k2.block g (h2.lt g hg) (h3 g hg), fun g hg hf => ?_, k2, k3⟩
  rcases k3 g hf with e | e
  · exact h3 g hg e
  · have := h2.lt g hg
    omega

/-- The flag is written. -/
theorem XW.flag (h : XW x y F w s) (b : Bool) : XwS x y F w (w.setCell ⟨x, 3, none⟩ (.bool b)) ⟨s.d, s.l, b⟩ := by
  obtain ⟨F1, v, rs, h1, h2, h3, rfl⟩ := h
  have ho : Out (fun g => g = x) w (w.setCell ⟨x, 3, none⟩ (.bool b)) := Out.of_grown (grown_setCell w ⟨x, 3, none⟩ (.bool b)) fun g hg => by simp at hg; exact hg.symm
  have h2' : XrV x y (w.setCell ⟨x, 3, none⟩ (.bool b)) s.l b v rs := ⟨by rw [set_cells h2.blk]; rfl, h2.log.agree fun g hg => ho.block g (h2.log.lt g hg) fun e => h2.log.ne h2.blk (by decide) (by decide) (e ▸ hg)⟩
  exact ⟨_, ⟨F1, v, rs, h1.out ho fun g hg e => h3 g (.inl e) hg, h2', h3, rfl⟩, ho.mono fun g hg => .inl (.inr (.inl hg)), fun g hg => .inl hg⟩

end

set_option maxRecDepth 20000 in
set_option maxHeartbeats 2000000 in
theorem xopen_any (q : Nat) (F : Nat → Prop) (w : World) (st : Dm.Ds) (h : Dk q F w st) (hs : Big 100000000 800000 st) :
    Calls Tryz.prog 20 #[.pointer (some ⟨q, 0, none⟩)] w fun E w' => ∃ l, Hid (Rl.Lg 0 (Rl.hld st) l) ∧
      ((ropE st l ≠ 0 ∧ E = .returned (.tuple #[.pointer none, .int .i64 (ropE st l)]) ∧ DStep q F w w' (ropD st l)) ∨ (ropE st l = 0 ∧ ∃ p F', E = .returned (.tuple #[.pointer (some ⟨p, 0, none⟩), .int .i64 0]) ∧ XW p q F' w' ⟨ropD st l, l, false⟩ ∧ Out F w w' ∧ ∀ g, F' g → F g ∨ w.heap.size ≤ g)) := by
  have HH := hide (holdsR_any q F w st 2 h (by decide) (Nat.le_trans (hs.1.1 2) (by decide)) (Nat.le_trans hs.1.2.1 (by decide)))
  rw [show Dm.hold 2 (st.sure 2) st.wait = Rl.hld st from rfl] at HH
  have HK := hide h
  have HS := hide hs
  have hlen := rhld_len hs
  obtain ⟨ds, dwv, drs, hd⟩ := h
  have d0 := hd.c0
  have d6 := hd.c6
  clear hd
  cases hon : st.on with
  | false =>
    obtain ⟨l, hl⟩ := Rl.lg_is 0 (Rl.hld st)
    have e1 : ropE st l = 6 := by unfold ropE; rw [if_pos hon]
    have e2 : ropD st l = st := by unfold ropD; rw [if_pos hon]
    have E1 := hide e1
    have E2 := hide e2
    have HL := hide hl
    rw [hon] at d6
    clear hs hon e1 e2 hl HH
    go_enter Tryz.func20, Tryz.ntmps20
    go_wp2
    go_ret2
    exact ⟨l, HL, .inl ⟨by rw [E1.out]; decide, by rw [E1.out]; rfl, by rw [E2.out]; exact DStep.same HK.out (Below.refl _ _)⟩⟩
  | true =>
    rw [hon] at d6
    have HO := hide hon
    clear hs hon
    go_enter Tryz.func20, Tryz.ntmps20
    go_wp2_with fail
    refine HH.out.mono ?_
    rintro E w1 ⟨v, rfl, own, bel⟩
    have HW := hide (xscan_any v (Rl.hld st) w1 own.is (by omega))
    obtain ⟨a, c, hv, _, _⟩ := own.is.shape
    have B1 := hide bel
    subst hv
    have sz1 := bel.size
    clear own HH bel
    go_wp2_with fail
    refine HW.out.mono ?_
    rintro E w2 ⟨l, vc, rs, rfl, Q2, b2, LG⟩
    have B2 := hide (B1.out.trans (b2.mono B1.out.size))
    have sz2 := b2.size
    have e1 : ropE st l = (Rl.trm st (Rl.lgb l).length).1 := by unfold ropE; rw [if_neg (by rw [HO.out]; decide)]
    have e2 : ropD st l = (Rl.trm st (Rl.lgb l).length).2 := by unfold ropD; rw [if_neg (by rw [HO.out]; decide)]
    have HT := hide (trimR_two q F w2 st (Rl.lgb l).length (HK.out.below B2.out) HS.out)
    rw [← e1, ← e2] at HT
    have e01 : ropE st l = 0 ∨ ropE st l = 6 := by rw [e1]; exact rtrm_e st _
    obtain ⟨xa, xn, xk, hvc⟩ : ∃ a n k, vc = .slice a n k := by
      obtain ⟨a1, k1, h1, _⟩ := Q2.row.row.shape
      exact ⟨a1, _, k1, h1⟩
    subst hvc
    have Q2h := hide Q2
    have LT2 := hide HK.out.lt
    clear HW Q2 b2 e1 e2
    go_wp2_with fail
    refine HT.out.mono ?_
    rintro E w3 ⟨rfl, F3, K3, o3, s3⟩
    have D0 : Hid (DStep q F w w3 (ropD st l)) := hide (DStep.pre B2.out ⟨F3, K3, o3, s3⟩)
    have q3 : Rq w1.heap.size w3 l (.slice xa xn xk) rs := Q2h.out.out o3 fun g hg hf => by have h1 := Q2h.out.ge g hg; have h2 := LT2.out g hf; omega
    obtain ⟨W, hW, szW, belW, bW⟩ := blk_step w3 #[.bool true, .pointer (some ⟨q, 0, none⟩), .slice xa xn xk, .bool false] 128
    have sz3 := o3.size
    have FIN : Hid (∃ F', XW w3.heap.size q F' W ⟨ropD st l, l, false⟩ ∧ Out F w W ∧ ∀ g, F' g → F g ∨ w.heap.size ≤ g) := hide (by
      have hz := B2.out.size
      have oo : Out F w w3 := (Out.of_below (F := F) B2.out).trans o3 fun g hg => .inl hg
      refine ⟨_, ⟨F3, _, rs, K3.below belW, ⟨bW, (q3.below belW).rebase (Nat.zero_le _)⟩, fun g hg hf => ?_, rfl⟩, oo.trans (Out.of_below (F := F) belW) fun g hg => .inl hg, ?_⟩
      · have h4 := K3.lt g hf
        rcases hg with e | e
        · omega
        · rcases s3 g hf with e2 | e2
          · have h1 := Q2h.out.ge g e
            have h2 := LT2.out g e2
            omega
          · have h1 := Q2h.out.lt g e
            omega
      · rintro g (e | e | e)
        · rcases s3 g e with e | e
          · exact .inl e
          · exact .inr (by omega)
        · exact .inr (by omega)
        · exact .inr (by have := q3.ge g e; omega))
    have LGH := LG
    clear K3 o3 s3 q3 belW bW HT Q2h
    rcases e01 with e0 | e0
    · have E0 := hide e0
      rw [e0]
      clear e0
      go_wp2
      go_ret2
      obtain ⟨F', k1, k2, k3⟩ := FIN.out
      exact ⟨l, LGH, .inr ⟨E0.out, _, F', rfl, k1, k2, k3⟩⟩
    · have E0 := hide e0
      rw [e0]
      clear e0
      go_wp2
      go_ret2
      exact ⟨l, LGH, .inl ⟨by rw [E0.out]; decide, by rw [E0.out]; rfl, D0.out⟩⟩

/-- A run more, put into the object. -/
theorem xr_push {x y : Nat} {F1 : Nat → Prop} {w wc : World} {d : Dm.Ds} {l : List Cm.Cv} {bk : Bool} {v : Value} {rs : List Cw} {c : Cw} (h1 : Dk y F1 w d) (hv : XrV x y w l bk v rs) (h3 : ∀ g, XRB x v rs g → ¬ F1 g) (hb : Below w.heap.size w wc) (hc : OwnO 81 w.heap.size wc c.v c.l) (hg : Rl.Good 0 (l ++ [c.c])) (ty : TypeId) :
    ∃ V, wc.alloc (.cells #[.int .i64 c.e, .int .i64 c.n, c.v] 93) = V ∧ V.cell? ⟨x, 2, none⟩ = some v ∧ ∃ v2 w2, (Builtin.append_ #[69, 69] ty #[v, .slice (some ⟨wc.heap.size, 0, none⟩) 1 1]).run Tryz.prog V = .ok v2 w2 ∧ w2.cell? ⟨x, 2, none⟩ = some v ∧ w2.frozen? ⟨x, 2, none⟩ = false ∧ (∃ a n k, v2 = .slice a n k) ∧
      XwS x y (fun g => F1 g ∨ XRB x v rs g) w (w2.setCell ⟨x, 2, none⟩ v2) ⟨d, l ++ [c.c], bk⟩ := by
  have hsz := hb.size
  obtain ⟨V, hV, szV, belV, ownV⟩ := coms_step 93 wc #[.int .i64 c.e, .int .i64 c.n, c.v] 1 [c] rfl rfl (by simp [maxLen])
  have bwV := hb.trans (belV.mono hsz)
  have qV := hv.log.below bwV
  have BV := (bwV.block x (blk_lt hv.blk)).trans hv.blk
  have hone : ∀ d ∈ [c], d.v.oneCell' = true := fun d hd => by rw [List.mem_singleton.1 hd]; exact hc.is.one
  obtain ⟨v2, w2, hr, own2, gr2, at2⟩ := run_append_coms_at (P := Tryz.prog) (w := V) 69 ty 93 0 Tryz.underlying69 Tryz.info93 v rs qV.row _ [c] ownV.row hone (by have := hv.log.len_le; simp; omega) (Nat.zero_le _)
  have kp : KeepT 93 V w2 := KeepT.of_row qV.row gr2
  have q2 := qV.grow own2 kp ((hc.below belV).rebase (Nat.zero_le _)) hg
  have hpn : ¬ v.ownBlock = some x := fun e => qV.ne BV (by decide) (by decide) (.inl e)
  have B2 := (gr2.block x (blk_lt BV) (fun e => hpn e.symm)).trans BV
  obtain ⟨X, hX, bX, gX, fX⟩ := put_at3 B2 2 v2
  have qX : Rq 0 X (l ++ [c.c]) v2 (rs ++ [c]) := q2.agree fun g hg => gX.block g (q2.lt g hg) fun e => by
    simp at e
    exact q2.ne B2 (by decide) (by decide) (e ▸ hg)
  have o : Out (XRB x v rs) w X := ((Out.of_below (F := XRB x v rs) bwV).trans (Out.of_grown (F := XRB x v rs) gr2 fun g hg => .inr (.inl hg)) fun g hg => .inl hg).trans (Out.of_grown (F := XRB x v rs) gX fun g hg => .inl (by simpa using hg.symm)) fun g hg => .inl hg
  have hnew : ∀ g, XRB x v2 (rs ++ [c]) g → XRB x v rs g ∨ w.heap.size ≤ g := by
    rintro g (e | e | ⟨d, hd, e⟩)
    · exact .inl (.inl e)
    · rcases at2 with h | h
      · exact .inl (.inr (.inl (h ▸ e)))
      · rw [h] at e
        simp at e
        exact .inr (by omega)
    · rcases List.mem_append.1 hd with hd | hd
      · exact .inl (.inr (.inr ⟨d, hd, e⟩))
      · rw [List.mem_singleton.1 hd] at e
        exact .inr (hc.block g e).1
  refine ⟨V, hV, blk_cell BV 2 rfl, v2, w2, hr, blk_cell B2 2 rfl, fX, ?_, ?_⟩
  · obtain ⟨a1, k1, h1, _⟩ := own2.row.shape
    exact ⟨a1, _, k1, h1⟩
  · rw [hX]
    refine ⟨_, ⟨F1, v2, rs ++ [c], h1.out o fun g hg e => h3 g e hg, ⟨bX, qX⟩, fun g hg hf => ?_, rfl⟩, o.mono fun g hg => .inl (.inr hg), ?_⟩
    · rcases hnew g hg with e | e
      · exact h3 g e hf
      · have := h1.lt g hf
        omega
    · rintro g (e | e)
      · exact .inl (.inl e)
      · exact (hnew g e).imp (fun e => .inr e) id

end Go.Proofs.YthmecljkackmbaaGreat

/- The document's runs: Flush. -/
namespace Go.Proofs.YthmecljkackmbaaGreat
open Go.RowKit
open Bm (Ov)
set_option linter.unusedVariables false

/-- What is written: the frame of the run's bytes. -/
theorem xfr (c : Cm.Cv) (h : Rn.chk c.e c.n c.l = 0) : apd [] (Rn.out c.e c.n c.l) = Rl.fr c := by
  have hz := Rn.out_small c.e c.n c.l
  unfold apd
  rw [if_pos (by omega), Rn.out_ok h]
  rfl

set_option maxRecDepth 20000 in
set_option maxHeartbeats 4000000 in
theorem xflush_any (x y : Nat) (F : Nat → Prop) (w : World) (s : Rl.Rs) (c : Cw) (h : XW x y F w s) (hs : RBig s) (hi : IsO w c.v c.l) (hf : FitO c.l) (h64 : In64 c.e ∧ In64 c.n) (hlo : c.l.length * 40 ≤ 140737488351232) (hcF : 0 < c.l.length → ∀ b, c.v.ownBlock = some b → ¬ F b) :
    Calls Tryz.prog 99 #[.pointer (some ⟨x, 0, none⟩), cmv c.e c.n c.v] w fun E w' => E = .returned (.int .i64 (Rl.flu s c.c).1) ∧ XwS x y F w w' (Rl.flu s c.c).2 := by
  obtain ⟨ao, cap, hcv, _, _⟩ := hi.shape
  obtain ⟨w1, hw1, sz1, bel1, hB0⟩ := blk_step w #[.int .i64 c.e, .int .i64 c.n, c.v] 93
  have c0 : w1.cell? ⟨w.heap.size, 0, none⟩ = some (.int .i64 c.e) := blk_cell hB0 0 rfl
  have c1 : w1.cell? ⟨w.heap.size, 1, none⟩ = some (.int .i64 c.n) := blk_cell hB0 1 rfl
  have c2 : w1.cell? ⟨w.heap.size, 2, none⟩ = some c.v := blk_cell hB0 2 rfl
  have hW1 := h.below bel1
  have HLT := hide h.lt
  have HCF := hide hcF
  obtain ⟨F1, v, rs, h1, h2, h3, hF⟩ := hW1
  have p0 : w1.cell? ⟨x, 0, none⟩ = some (.bool true) := blk_cell h2.blk 0 rfl
  have p1 : w1.cell? ⟨x, 1, none⟩ = some (.pointer (some ⟨y, 0, none⟩)) := blk_cell h2.blk 1 rfl
  have p3 : w1.cell? ⟨x, 3, none⟩ = some (.bool s.bk) := blk_cell h2.blk 3 rfl
  have f3 : w1.frozen? ⟨x, 3, none⟩ = false := blk_froz h2.blk 3
  have d3 : w1.cell? ⟨y, 6, none⟩ = some (.bool s.d.on) := by
    obtain ⟨ds, dwv, drs, hd⟩ := h1
    exact hd.c6
  have HN := hide (xnone_any x w1 p0)
  unfold cmv
  rw [hcv] at hw1 c2 ⊢
  cases ha : Rl.ask s with
  | true =>
    have e1 : Rl.flu s c.c = (6, Rl.brk s) := by unfold Rl.flu; rw [ha]; rfl
    rw [e1]
    have J := hide (XwS.pre bel1 ((show XW x y F w1 s from ⟨F1, v, rs, h1, h2, h3, hF⟩).flag true))
    cases hk : s.bk with
    | true =>
      rw [hk] at p3
      clear h hs hi hf h64 hlo hB0 bel1 e1 h1 h2 h3 hF hcF ha hk
      go_enter Tryz.func99, Tryz.ntmps99
      go_wp2_with fail
      refine HN.out.mono ?_
      rintro E w2 ⟨rfl, rfl⟩
      clear HN
      go_wp2
      go_ret
      exact ⟨rfl, J.out⟩
    | false =>
      have hon : s.d.on = false := by
        unfold Rl.ask at ha
        rw [hk] at ha
        simpa using ha
      rw [hk] at p3
      rw [hon] at d3
      clear h hs hi hf h64 hlo hB0 bel1 e1 h1 h2 h3 hF hcF ha hk hon
      go_enter Tryz.func99, Tryz.ntmps99
      go_wp2_with fail
      refine HN.out.mono ?_
      rintro E w2 ⟨rfl, rfl⟩
      clear HN
      go_wp2
      go_ret
      exact ⟨rfl, J.out⟩
  | false =>
    have hbk : s.bk = false := by
      unfold Rl.ask at ha
      cases hb : s.bk with
      | false => rfl
      | true => rw [hb] at ha; cases ha
    have hon : s.d.on = true := by
      unfold Rl.ask at ha
      rw [hbk] at ha
      simpa using ha
    rw [hbk] at p3
    rw [hon] at d3
    have HEN := hide (hencR_any c.e c.n c.v c.l w1 (hi.below bel1) hf (by omega))
    unfold cmv at HEN
    rw [hcv] at HEN
    obtain ⟨ch, hch⟩ : ∃ x, Rn.chk c.e c.n c.l = x := ⟨_, rfl⟩
    rw [hch] at HEN
    have KC := hide hch
    have HCV := hide hcv
    have IOX := hide hi
    have FO := hide (show FitO c.l ∧ (In64 c.e ∧ In64 c.n) ∧ c.l.length * 40 ≤ 140737488351232 from ⟨hf, h64, hlo⟩)
    have HB := hide hB0
    have B1 := hide bel1
    have HS := hide hs
    have HASK := hide ha
    have HBK := hide hbk
    have H1 := hide h1
    have H2 := hide h2
    have H3 := hide h3
    have HFF := hide hF
    have HW1 : Hid (XW x y F w1 s) := hide ⟨F1, v, rs, h1, h2, h3, hF⟩
    clear h hs hi hf h64 hlo hch hcv hB0 bel1 ha hbk hon h1 h2 h3 hF hcF
    go_enter Tryz.func99, Tryz.ntmps99
    go_wp2_with fail
    refine HN.out.mono ?_
    rintro E w2 ⟨rfl, rfl⟩
    clear HN
    go_wp2_with fail
    refine HEN.out.mono ?_
    rintro E w2 ⟨vb, rfl, own, bel2⟩
    have b02 := B1.out.trans (bel2.mono B1.out.size)
    have sz2 := bel2.size
    have hB2 := (bel2.block w.heap.size (by omega)).trans HB.out
    have g0 : w2.cell? ⟨w.heap.size, 0, none⟩ = some (.int .i64 c.e) := blk_cell hB2 0 rfl
    have g1 : w2.cell? ⟨w.heap.size, 1, none⟩ = some (.int .i64 c.n) := blk_cell hB2 1 rfl
    have g2 : w2.cell? ⟨w.heap.size, 2, none⟩ = some c.v := blk_cell hB2 2 rfl
    rw [HCV.out] at g2
    obtain ⟨ab, nb, cb, hvb⟩ : ∃ a n k, vb = .slice a n k := by
      obtain ⟨a1, k1, h1, _⟩ := own.is.shape
      exact ⟨a1, _, k1, h1⟩
    subst hvb
    have OB := hide own
    have HB2 := hide hB2
    have B02 := hide b02
    have HW2 := hide (HW1.out.below bel2)
    have K2 := hide (H1.out.below bel2)
    have V2 := hide (H2.out.below bel2)
    clear own bel2 HEN hB2 c0 c1 c2 b02 HW1 H1 H2 HB p0 p1 p3 f3 d3
    by_cases hc0 : ch = 0
    · subst hc0
      have hfl : (Rl.fr c.c).length ≤ 52236 := Rl.fr_small KC.out
      have hrl := Rn.out_small c.e c.n c.l
      have hgl := Rl.good_len V2.out.log.good
      have hwr : IntKind.i64.wrap (c.e - 1) = c.e - 1 := by
        obtain ⟨_, a1, a2, a3, _⟩ := Rn.chk_zero KC.out
        exact wrap_i64_small _ (by omega) (by omega)
      have p0 : w2.cell? ⟨x, 0, none⟩ = some (.bool true) := blk_cell V2.out.blk 0 rfl
      have p1 : w2.cell? ⟨x, 1, none⟩ = some (.pointer (some ⟨y, 0, none⟩)) := blk_cell V2.out.blk 1 rfl
      have hxw : x < w2.heap.size := blk_lt V2.out.blk
      have TK : Hid (∀ W, Below w2.heap.size w2 W → Calls Tryz.prog 70 #[.pointer (some ⟨x, 0, none⟩)] W fun E w' => E = .returned (.int .i64 (Cm.lastN 0 s.l)) ∧ Below w2.heap.size w2 w') := hide fun W hbW => by
        refine (xend_any x y W s.l s.bk v rs (V2.out.below hbW)).mono ?_
        rintro E w' ⟨rfl, m, rfl⟩
        exact ⟨rfl, below_drewN hbW m⟩
      obtain ⟨ans, hans⟩ : ∃ b, (c.e - 1 != Cm.lastN 0 s.l) = b := ⟨_, rfl⟩
      have HA := hide hans
      generalize hle : Cm.lastN 0 s.l = le at *
      have HLE := hide hle
      clear hgl hle
      go_wp2_with fail
      go_region_held3 (fun w' => w'.cell? ⟨w.heap.size, 0, none⟩ = some (.int .i64 c.e)) (first | exact g0 | exact e0 | go_keep)
        (first
        | (go_at_call 70; refine (TK.out _ ((Below.refl _ _).drew)).mono ?_; rintro E w3 ⟨rfl, bel3⟩; have e0 := (bel3.cell (p := ⟨w.heap.size, 0, none⟩) (show w.heap.size < w2.heap.size by omega)).trans g0))
      have b03 := B02.out.trans (bel3.mono B02.out.size)
      have sz3 := bel3.size
      have V3 := hide (V2.out.below bel3)
      have K3 := hide (K2.out.below bel3)
      have O3 := hide (OB.out.below bel3)
      have HB3 := hide ((bel3.block w.heap.size (by omega)).trans HB2.out)
      have W3 := hide (HW2.out.below bel3)
      have B3 := hide b03
      clear V2 K2 OB HB2 TK g0 g1 g2 p0 p1 b03 bel3 HW2 B02
      cases ans with
      | true =>
        have hord : ¬ c.e - 1 = Cm.lastN 0 s.l := by rw [HLE.out]; simpa using HA.out
        have e4 : Rl.flu s c.c = (15, s) := by
          unfold Rl.flu
          rw [HASK.out, if_neg (by decide), if_neg (by intro hx; exact hx KC.out), if_pos (show c.c.e - 1 ≠ Cm.lastN 0 s.l from hord)]
        have E4 := hide e4
        clear e4 hord
        go_wp2
        go_ret
        exact ⟨by rw [E4.out]; rfl, by rw [E4.out]; exact XwS.pre B3.out (XwS.same W3.out (Below.refl _ _))⟩
      | false =>
        have hord : c.e - 1 = Cm.lastN 0 s.l := by rw [HLE.out]; simpa using HA.out
        have hgood : Rl.Good 0 (s.l ++ [c.c]) := (Rl.good_snoc V3.out.log.good).2 ⟨KC.out, hord⟩
        have HAP := hide (fappR_any (.slice none 0 0) (.slice ab nb cb) [] (Rn.out c.e c.n c.l) w3 (Is.nil _ _) O3.out.is (by simp) (by omega))
        rw [show apd [] (Rn.out c.e c.n c.l) = Rl.fr c.c from xfr c.c KC.out] at HAP
        have e4 : Rl.flu s c.c = if (Rl.ext s.d (Rl.fr c.c)).1 ≠ 0 then ((Rl.ext s.d (Rl.fr c.c)).1, ⟨(Rl.ext s.d (Rl.fr c.c)).2, s.l, true⟩) else (0, ⟨(Rl.ext s.d (Rl.fr c.c)).2, s.l ++ [c.c], false⟩) := by
          unfold Rl.flu
          rw [HASK.out, if_neg (by decide), if_neg (by intro hx; exact hx KC.out), if_neg (by intro hx; exact hx hord)]
        have E4 := hide e4
        have GD := hide hgood
        clear e4 hgood hord O3
        go_wp2_with fail
        refine HAP.out.mono ?_
        rintro E w4 ⟨vf, rfl, own4, bel4⟩
        have sz4 := bel4.size
        have V4 := hide (V3.out.below bel4)
        have K4 := hide (K3.out.below bel4)
        have HB4 := hide ((bel4.block w.heap.size (by omega)).trans HB3.out)
        have B4 := hide (B3.out.trans (bel4.mono B3.out.size))
        obtain ⟨af, nf, kf, hvf⟩ : ∃ a n k, vf = .slice a n k := by
          obtain ⟨a1, k1, h1, _⟩ := own4.is.shape
          exact ⟨a1, _, k1, h1⟩
        subst hvf
        have p1 : w4.cell? ⟨x, 1, none⟩ = some (.pointer (some ⟨y, 0, none⟩)) := blk_cell V4.out.blk 1 rfl
        have hs0 := HS.out
        have hcn := cnt_run hfl
        have HWR := hide (writeR_any y F1 w4 s.d 2 (.slice af nf kf) (Rl.fr c.c) K4.out own4.is (fun _ b hb hf => by
          have h1 := (own4.block b hb).1
          have h2 := HLT.out b (by rw [HFF.out]; exact .inl hf)
          omega) (by omega) (by have := hs0.1.2.1; omega) hs0.2 (by have := hs0.1.2.2; omega))
        have hs2 : Big 100000000 800000 (Dm.write s.d 2 (Rl.fr c.c)).2 := (big_write hs0 2 (Rl.fr c.c)).mono (by omega) (by omega)
        have HSY : Hid (∀ W G, Dk y G W (Dm.write s.d 2 (Rl.fr c.c)).2 → Calls Tryz.prog 136 #[.pointer (some ⟨y, 0, none⟩)] W fun E w' => E = .returned (.int .i64 (Dm.sync (Dm.write s.d 2 (Rl.fr c.c)).2).1) ∧ DStep y G W w' (Dm.sync (Dm.write s.d 2 (Rl.fr c.c)).2).2) := hide fun W G hk => syncR_any y G W _ hk (fun f => Nat.le_trans (hs2.1.1 f) (by decide)) (Nat.le_trans hs2.1.2.1 (by decide)) hs2.2 (Nat.lt_of_le_of_lt hs2.1.2.2 (by decide))
        have e01 := Rl.ext_e s.d (Rl.fr c.c)
        unfold Rl.ext at E4 e01
        generalize hwr2 : Dm.write s.d 2 (Rl.fr c.c) = yy at *
        obtain ⟨x1, d1⟩ := yy
        simp only at e01 E4 HWR HSY
        generalize hsy2 : Dm.sync d1 = zz at *
        obtain ⟨x2, d2⟩ := zz
        simp only at e01 E4 HSY
        clear hwr2 hsy2 own4 bel4 HAP V3 K3 HB3 B3 W3 hs2 hs0 hcn hfl hrl
        have NF : Hid (∀ g, XRB x v rs g → ¬ F1 g) := H3
        by_cases hx1 : x1 = 0
        · subst hx1
          rw [if_neg (by decide)] at e01
          have E5 := E4.out
          simp only [ne_eq, not_true_eq_false, if_false] at E5
          have E4 := hide E5
          clear E5
          go_wp2_with fail
          refine HWR.out.mono ?_
          rintro E w5 ⟨rfl, DS⟩
          obtain ⟨F2, k1, k2, k3, k4, k5⟩ := XW.disk K4.out V4.out H3.out DS
          have T5 := hide (show Out F w4 w5 ∧ ∀ g, (F2 g ∨ XRB x v rs g) → F g ∨ w4.heap.size ≤ g from by
            refine ⟨k4.mono fun g hg => .inl (by rw [HFF.out]; exact .inl hg), ?_⟩
            rintro g (hg | hg)
            · rcases k5 g hg with e | e
              · exact .inl (by rw [HFF.out]; exact .inl e)
              · exact .inr e
            · exact .inl (by rw [HFF.out]; exact .inr hg))
          have HS5 := hide (HSY.out w5 F2 k1)
          have K5 := hide k1
          have V5 := hide k2
          have N5 := hide k3
          have q1 : w5.cell? ⟨x, 1, none⟩ = some (.pointer (some ⟨y, 0, none⟩)) := blk_cell V5.out.blk 1 rfl
          clear DS k1 k2 k3 k4 k5 HWR HSY K4 V4 p1
          go_wp2_with fail
          refine HS5.out.mono ?_
          rintro E w6 ⟨rfl, DS⟩
          obtain ⟨F3, k1, k2, k3, k4, k5⟩ := XW.disk K5.out V5.out N5.out DS
          have T6 := hide (show Out F w4 w6 ∧ ∀ g, (F3 g ∨ XRB x v rs g) → F g ∨ w4.heap.size ≤ g from by
            have o5 := T5.out.1.size
            refine ⟨T5.out.1.trans (k4.mono (G := fun g => F2 g ∨ XRB x v rs g) fun g hg => .inl (.inl hg)) T5.out.2, ?_⟩
            rintro g (hg | hg)
            · rcases k5 g hg with e | e
              · exact T5.out.2 g (.inl e)
              · exact .inr (by omega)
            · exact T5.out.2 g (.inr hg))
          have K6 := hide k1
          have V6 := hide k2
          have N6 := hide k3
          clear DS k1 k2 k3 k4 k5 HS5 K5 V5 N5 q1 T5
          rcases e01 with rfl | rfl
          · have E5 := E4.out
            rw [if_neg (by decide)] at E5
            have E4 := hide E5
            clear E5
            obtain ⟨o6, s6⟩ := T6.out
            have sz6 := o6.size
            have hnF : ¬ F w.heap.size := fun hf => by have := HLT.out _ hf; omega
            have hB6 := (o6.block w.heap.size (by omega) hnF).trans HB4.out
            have x0 : w6.cell? ⟨w.heap.size, 0, none⟩ = some (.int .i64 c.e) := blk_cell hB6 0 rfl
            have x1 : w6.cell? ⟨w.heap.size, 1, none⟩ = some (.int .i64 c.n) := blk_cell hB6 1 rfl
            have x2 : w6.cell? ⟨w.heap.size, 2, none⟩ = some c.v := blk_cell hB6 2 rfl
            rw [HCV.out] at x2
            have i6 : IsO w6 c.v c.l := (IOX.out.below B4.out).out o6 HCF.out
            have hp6 : x < w6.heap.size := blk_lt V6.out.blk
            obtain ⟨la, ln, lk, hlv⟩ : ∃ a n k, v = .slice a n k := by
              obtain ⟨a1, k1, h1, _⟩ := V6.out.log.row.row.shape
              exact ⟨a1, _, k1, h1⟩
            subst hlv
            have y2 : w6.cell? ⟨x, 2, none⟩ = some (.slice la ln lk) := blk_cell V6.out.blk 2 rfl
            have X1 : Hid (Calls Tryz.prog 160 #[.agg #[.int .i64 c.e, .int .i64 c.n, .slice ao c.l.length cap]] w6.drew fun E w7 => ∃ v', E = .returned v' ∧ ∃ (vo : Value) (V : World), v' = .agg #[.int .i64 c.e, .int .i64 c.n, vo] ∧ (∃ a n k, vo = .slice a n k) ∧ w7.cell? ⟨x, 2, none⟩ = some (.slice la ln lk) ∧ (w7.cell? ⟨w.heap.size, 0, none⟩ = some (.int .i64 c.e) ∧ w7.cell? ⟨w.heap.size, 1, none⟩ = some (.int .i64 c.n) ∧ w7.cell? ⟨w.heap.size, 2, none⟩ = some (.slice ao c.l.length cap)) ∧ w7.alloc (.cells #[.int .i64 c.e, .int .i64 c.n, vo] 93) = V ∧ (V.cell? ⟨x, 2, none⟩ = some (.slice la ln lk) ∧ (V.cell? ⟨w.heap.size, 0, none⟩ = some (.int .i64 c.e) ∧ V.cell? ⟨w.heap.size, 1, none⟩ = some (.int .i64 c.n) ∧ V.cell? ⟨w.heap.size, 2, none⟩ = some (.slice ao c.l.length cap))) ∧
                Hid (∀ ty, ∃ v2 w2, (Builtin.append_ #[69, 69] ty #[.slice la ln lk, .slice (some ⟨w7.heap.size, 0, none⟩) 1 1]).run Tryz.prog V = .ok v2 w2 ∧ (XwS x y F w4 (w2.setCell ⟨x, 2, none⟩ v2) ⟨d2, s.l ++ [c.c], s.bk⟩ ∧ w2.cell? ⟨x, 2, none⟩ = some (.slice la ln lk) ∧ w2.frozen? ⟨x, 2, none⟩ = false ∧ ∃ a n k, v2 = .slice a n k))) := hide (by
              have := xcopy_any c.e c.n c.v c.l w6.drew (i6.drewN 1) FO.out.2.2
              unfold cmv at this
              rw [HCV.out] at this
              refine this.mono ?_
              rintro E w7 ⟨vo, rfl, own7, bel7⟩
              have b67 : Below w6.heap.size w6 w7 := (Below.refl w6.heap.size w6).drew.trans bel7
              obtain ⟨V, hV, V2, _⟩ := xr_push (c := ⟨c.e, c.n, vo, c.l⟩) K6.out V6.out N6.out b67 own7 GD.out 69
              have belV : Below w7.heap.size w7 V := by rw [← hV]; exact (Below.refl _ _).alloc (Nat.le_refl _) _
              have b6V := b67.trans (belV.mono b67.size)
              obtain ⟨a1, k1, h1, _⟩ := own7.is.shape
              refine ⟨_, rfl, vo, V, rfl, ⟨a1, _, k1, h1⟩, (b67.cell (p := ⟨x, 2, none⟩) hp6).trans y2, ⟨(b67.cell (p := ⟨w.heap.size, 0, none⟩) (show w.heap.size < w6.heap.size by omega)).trans x0, (b67.cell (p := ⟨w.heap.size, 1, none⟩) (show w.heap.size < w6.heap.size by omega)).trans x1, (b67.cell (p := ⟨w.heap.size, 2, none⟩) (show w.heap.size < w6.heap.size by omega)).trans x2⟩, hV, ⟨V2, (b6V.cell (p := ⟨w.heap.size, 0, none⟩) (show w.heap.size < w6.heap.size by omega)).trans x0, (b6V.cell (p := ⟨w.heap.size, 1, none⟩) (show w.heap.size < w6.heap.size by omega)).trans x1, (b6V.cell (p := ⟨w.heap.size, 2, none⟩) (show w.heap.size < w6.heap.size by omega)).trans x2⟩, hide fun ty => ?_⟩
              obtain ⟨V', hV', V2', v2', w2', hr', q1', q2', q3', J'⟩ := xr_push (c := ⟨c.e, c.n, vo, c.l⟩) K6.out V6.out N6.out b67 own7 GD.out ty
              have eV : V' = V := hV'.symm.trans hV
              subst eV
              exact ⟨v2', w2', hr', XwS.trans o6 s6 J', q1', q2', q3'⟩)
            clear hB6 i6 V6 K6 T6 N6 o6 s6
            go_wp2_with fail
            go_region_law (first
              | (have ow := XX; refine step_append_at rfl (.tmp 67) (.tmp 70) 69 rfl (.slice la ln lk) (.slice (some ⟨w7.heap.size, 0, none⟩) 1 1) (by first | (simp [Act.eval]; done) | (simp [Act.eval, Act.put]; done)) (by first | (simp [Act.eval]; done) | (simp [Act.eval, Act.put]; done)) XX.out ?_; rintro v8 w8 ⟨J, d8, g8, a8, n8, k8, rfl⟩; have J := hide J)
              | (refine call_at rfl 160 #[.tmp 68] #[93] rfl Tryz.enters160 #[.agg #[.int .i64 c.e, .int .i64 c.n, .slice ao c.l.length cap]] (by first | (simp [Act.eval]; done) | (simp [Act.eval, Act.put]; done)) X1.out ?_; rintro v7 w7 ⟨vo, V, rfl, ⟨oa, on, ok, rfl⟩, z2, ⟨b0, b1, b2⟩, hV, ⟨z3, b3, b4, b5⟩, XX⟩))
            all_goals
              have JJ := hide (XwS.pre B4.out J.out)
              clear J
              go_wp2
              go_ret
              refine ⟨by rw [E4.out]; rfl, ?_⟩
              rw [E4.out]
              have := JJ.out
              rw [HBK.out] at this
              exact this
          · have E5 := E4.out
            rw [if_pos (by decide)] at E5
            have E4 := hide E5
            clear E5
            have HFL := hide ((show XW x y (fun g => F3 g ∨ XRB x v rs g) w6 ⟨d2, s.l, s.bk⟩ from ⟨F3, v, rs, K6.out, V6.out, N6.out, rfl⟩).flag true)
            have p3 := blk_cell V6.out.blk 3 rfl
            have f3 := blk_froz V6.out.blk 3
            simp only [List.getElem_toArray, List.getElem_cons_zero, List.getElem_cons_succ] at p3
            have JJ := hide (XwS.pre B4.out (XwS.trans T6.out.1 T6.out.2 HFL.out))
            clear HFL T6 V6 K6 N6
            go_wp2
            go_ret
            exact ⟨by rw [E4.out]; rfl, by rw [E4.out]; exact JJ.out⟩
        · rw [if_pos hx1] at e01
          have hx6 : x1 = 6 := by
            rcases e01 with e | e
            · exact absurd e hx1
            · exact e
          subst hx6
          have E5 := E4.out
          rw [if_pos (show (6 : Int) ≠ 0 by decide), if_pos (show (6 : Int) ≠ 0 by decide)] at E5
          have E4 := hide E5
          clear E5
          go_wp2_with fail
          refine HWR.out.mono ?_
          rintro E w5 ⟨rfl, DS⟩
          obtain ⟨F2, k1, k2, k3, k4, k5⟩ := XW.disk K4.out V4.out H3.out DS
          have T5 := hide (show Out F w4 w5 ∧ ∀ g, (F2 g ∨ XRB x v rs g) → F g ∨ w4.heap.size ≤ g from by
            refine ⟨k4.mono fun g hg => .inl (by rw [HFF.out]; exact .inl hg), ?_⟩
            rintro g (hg | hg)
            · rcases k5 g hg with e | e
              · exact .inl (by rw [HFF.out]; exact .inl e)
              · exact .inr e
            · exact .inl (by rw [HFF.out]; exact .inr hg))
          have HFL := hide ((show XW x y (fun g => F2 g ∨ XRB x v rs g) w5 ⟨d1, s.l, s.bk⟩ from ⟨F2, v, rs, k1, k2, k3, rfl⟩).flag true)
          have p3 := blk_cell k2.blk 3 rfl
          have f3 := blk_froz k2.blk 3
          simp only [List.getElem_toArray, List.getElem_cons_zero, List.getElem_cons_succ] at p3
          have JJ := hide (XwS.pre B4.out (XwS.trans T5.out.1 T5.out.2 HFL.out))
          clear HFL T5 DS k1 k2 k3 k4 k5 HWR HSY K4 V4 p1
          go_wp2
          go_ret
          exact ⟨by rw [E4.out]; rfl, by rw [E4.out]; exact JJ.out⟩
    · have hne : (ch != 0) = true := by simp [hc0]
      have e4 : Rl.flu s c.c = (ch, s) := by
        unfold Rl.flu
        rw [HASK.out, if_neg (by decide), if_pos (by show Rn.chk c.e c.n c.l ≠ 0; rw [KC.out]; exact hc0)]
        show (Rn.chk c.e c.n c.l, s) = (ch, s)
        rw [KC.out]
      have E4 := hide e4
      clear e4
      go_wp2
      go_ret
      exact ⟨by rw [E4.out]; rfl, by rw [E4.out]; exact XwS.pre B02.out (XwS.same HW2.out (Below.refl _ _))⟩

end Go.Proofs.YthmecljkackmbaaGreat
