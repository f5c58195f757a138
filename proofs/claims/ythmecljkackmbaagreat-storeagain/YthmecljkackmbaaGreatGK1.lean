/- Texts of one layer, one behind the other. -/
import Derived.Test.YthmecljkackmbaaGreatG17
import Derived.Test.YthmecljkackmbaaGreatGT
/- What a store goes over: the iterator of All, for one who gathers it in a list of his own. -/
namespace Go.Proofs.YthmecljkackmbaaGreat
open Go.RowKit Go.Maps Go.Shelf
open Bm (Ov)
set_option linter.unusedVariables false
attribute [local go_sem] Oper.semAt_some

/-- The block of the list that a variable holds. -/
def RowB (ob : Nat) (W : World) (g : Nat) : Prop := ∃ u, W.cell? ⟨ob, 0, none⟩ = some u ∧ u.ownBlock = some g

/-- A round writes the variable and its list alone. -/
def Kq (ob : Nat) (W W' : World) : Prop := W.heap.size ≤ W'.heap.size ∧ (∀ g cs t fr, W.heap[g]? = some (.cells cs t fr) → g ≠ ob → ¬ RowB ob W g → W'.heap[g]? = some (.cells cs t fr)) ∧ ∀ g, RowB ob W' g → RowB ob W g ∨ W.heap.size ≤ g

theorem Kq.trans {ob : Nat} {A B C : World} (h : Kq ob A B) (k : Kq ob B C) : Kq ob A C := by
  refine ⟨Nat.le_trans h.1 k.1, fun g cs t fr hg h1 h2 => ?_, fun g hg => ?_⟩
  · refine k.2.1 g cs t fr (h.2.1 g cs t fr hg h1 h2) h1 fun e => ?_
    rcases h.2.2 g e with e | e
    · exact h2 e
    · have := blk_lt hg
      omega
  · rcases k.2.2 g hg with e | e
    · exact h.2.2 g e
    · exact .inr (Nat.le_trans h.1 e)

theorem RowB.of {ob g : Nat} {W W' : World} (h : W'.heap[ob]? = W.heap[ob]?) : RowB ob W' g ↔ RowB ob W g := by
  unfold RowB
  rw [cell_of_blk h]

theorem kq_b {ob : Nat} {w : World} (hob : ob < w.heap.size) (W : World) (l : Nat) (o o' : Obj) (hl : w.heap.size ≤ l) (h1 : W.heap[l]? = some o) (h2 : o.isCells = false) (_ : o.isWalk = false) : Kq ob W (W.putObj l o') := by
  have hne : ∀ g, g ≠ l → (W.putObj l o').heap[g]? = W.heap[g]? := fun g hg => World.putObj_heap_other hg
  refine ⟨(grownBy_putObj' W l o').size, fun g cs t fr hg _ _ => ?_, fun g hg => .inl ?_⟩
  · rw [hne g fun e => ?_]
    · exact hg
    · rw [e, h1] at hg
      cases hg
      simp [Obj.isCells] at h2
  · exact (RowB.of (hne ob (by omega))).1 hg

theorem kq_kn {ob : Nat} {S : Nat → Prop} {W W' : World} (h : Kq ob W W') (h1 : ∀ g, S g → ∃ cs t fr, W.heap[g]? = some (.cells cs t fr)) (h2 : ∀ g, S g → g ≠ ob ∧ ¬ RowB ob W g) : Kn S W W' := fun g hg => by
  obtain ⟨cs, t, fr, e⟩ := h1 g hg
  rw [h.2.1 g cs t fr e (h2 g hg).1 (h2 g hg).2, e]

/-- An iterator of a store's: the runs and the rest's table that it holds. -/
def SeqS (A B base : Nat) (w : World) (l : List Cm.Cv) (t : List Ov) : Prop := ∃ vr rr vo, base ≤ A ∧ base ≤ B ∧ w.heap[A]? = some (.cells #[vr] 69 (0, 0)) ∧ w.heap[B]? = some (.cells #[vo] 53 (0, 0)) ∧ Rq base w l vr rr ∧ OwnO 81 base w vo t

theorem SeqS.below {A B base : Nat} {w w' : World} {l : List Cm.Cv} {t : List Ov} (h : SeqS A B base w l t) (hb : Below w.heap.size w w') : SeqS A B base w' l t := by
  obtain ⟨vr, rr, vo, h1, h2, h3, h4, h5, h6⟩ := h
  exact ⟨vr, rr, vo, h1, h2, (hb.block A (blk_lt h3)).trans h3, (hb.block B (blk_lt h4)).trans h4, h5.below hb, h6.below hb⟩

theorem abides_below {β : Type} {n : Nat} {J : β → World → Prop} (h : AbidesFrom n J) {s : β} {W W' : World} (hj : J s W) (hb : Below W.heap.size W W') : J s W' :=
  h s W W' none hj ⟨hb.os, hb.tape, hb.output, hb.size, fun k hk _ => hb.block k hk⟩ (fun r e => by cases e)

/-- The fold of what it holds. -/
def fldS (l : List Cm.Cv) (t : List Ov) : List Ov := Tm.app (Rl.tab l) t

theorem aft_run {l : List Cm.Cv} {c : Cm.Cv} (h : Rn.chk c.e c.n c.l = 0) : Tm.aft (Rl.tab l) c.l = Rl.tab (l ++ [c]) := by
  have h1 : Bm.first c.l = 0 := Bm.first_all (Rn.may_c (Rn.chk_zero h).2.2.2.2)
  unfold Tm.aft
  rw [if_pos h1, Rl.tab_snoc]

theorem run_few {rs : List Cw} (hg : ∀ c ∈ rs, Rn.chk c.e c.n c.l = 0) (k : Nat) (hk : k ≤ rs.length) : (Rl.tab (cvs (rs.take k))).length ≤ k * 1024 := by
  have h1 := Tm.app_len (Rl.ops (cvs (rs.take k))) []
  have h2 := Rl.ops_len (l := cvs (rs.take k)) (n := 1024) fun c hc => by
    obtain ⟨d, hd, rfl⟩ := List.mem_map.1 hc
    exact (fit_run (hg d (List.mem_of_mem_take hd))).2.2.2.2
  have h3 : (cvs (rs.take k)).length = k := by rw [cvs, List.length_map, List.length_take]; omega
  unfold Rl.tab
  simp only [List.length_nil, Nat.zero_add] at h1
  rw [h3] at h2
  omega

theorem cvs_nx {rs : List Cw} {k : Nat} {c : Cw} (h : rs[k]? = some c) : cvs (rs.take (k + 1)) = cvs (rs.take k) ++ [c.c] := by
  obtain ⟨h1, h2⟩ := List.getElem?_eq_some_iff.1 h
  rw [List.take_succ_eq_append_getElem h1, h2]
  simp [cvs]

set_option maxRecDepth 100000 in
set_option maxHeartbeats 8000000 in
theorem all_seq (n : Nat) (hn : 2 ≤ n) (A B base ob : Nat) (l : List Cm.Cv) (t : List Ov) (w : World) (h : SeqS A B base w l t) (ht : ∀ o ∈ t, o.c = 0) (hL : l.length * 1024 + t.length ≤ 900000) (hob : ob < w.heap.size) (hor : ∀ g, ¬ RowB ob w g) (m : List Ov) (hm : Tm.live (fldS l t) = m) :
    SeqStopsK Fence.wide n Tryz.prog 147 #[.pointer (some ⟨A, 0, none⟩), .pointer (some ⟨B, 0, none⟩)] (fun x : Nx m.length => #[.string (pt m x).k, .string (pt m x).v]) (Kq ob) (fun xs => xs = upn m.length m.length) (fun pre => ∃ k, k ≤ m.length ∧ pre = upn m.length k) m.length w := fun lp J Jx W hW hJ hJx hY h0 => by
  have hS := h.below hW
  obtain ⟨vr, rr, vo, g1, g2, g3, g4, g5, g6⟩ := hS
  have hoW : ∀ g, ¬ RowB ob W g := fun g e => hor g ((RowB.of (hW.block ob hob)).1 e)
  have hobW : ob < W.heap.size := Nat.lt_of_lt_of_le hob hW.size
  obtain ⟨ra, rc, hvr, _, _⟩ := g5.row.row.shape
  obtain ⟨oa, oc, hvo, _, _⟩ := g6.is.shape
  have cA : W.cell? ⟨A, 0, none⟩ = some vr := blk_cell g3 0 rfl
  have hA := blk_lt g3
  have hB := blk_lt g4
  have HR := hide g5
  have HO := hide g6
  have HG : Hid (∀ c ∈ rr, Rn.chk c.e c.n c.l = 0) := hide (good_get g5.good g5.is)
  have HT := hide ht
  have HJ := hide hJ
  have HJ0 := hide h0
  have HY := hide hY
  have cB : Hid (W.cell? ⟨B, 0, none⟩ = some vo) := hide (blk_cell g4 0 rfl)
  have HRL := hide g5.len
  obtain ⟨rn, hrn⟩ : ∃ n, rr.length = n := ⟨_, rfl⟩
  have HRN := hide hrn
  have hlr : l.length = rn := by rw [← hrn]; exact g5.len.symm
  rw [hlr] at hL
  rw [hrn] at hvr
  have HVO := hide hvo
  subst hvr
  clear h hW hJ hJx hY h0 ht hor g1 g2 g3 g4 g5 g6 hrn hlr
  refine callsIn_of_wp Tryz.func147 rfl trivial ?_ rfl
  simp only [Tryz.ntmps147, List.size_toArray, List.length_cons, List.length_nil, Nat.reduceAdd, Nat.reduceSub, Array.replicate_succ, Array.replicate_zero, List.push_toArray, List.append_toArray, List.nil_append, List.cons_append]
  gi_wp2_with fail
  refine ⟨trivial, fun _ => by omega, (callsIn_wide.2 (tnew_any W)).mono ?_⟩
  rintro E W1 ⟨rfl, T1, b1⟩
  obtain ⟨pm, hpm⟩ : ∃ x, W.heap.size + 1 = x := ⟨_, rfl⟩
  obtain ⟨bm, hbm⟩ : ∃ x, W.heap.size = x := ⟨_, rfl⟩
  rw [hpm] at T1 ⊢
  have T1' : Hid (Tb pm bm W1 (Rl.tab (cvs (rr.take 0)))) := hide (by rw [← hbm]; exact T1)
  have B1 := hide b1
  have hbm' : W.heap.size ≤ bm := by omega
  have hpm' : W.heap.size ≤ pm := by omega
  have cA1 := (b1.cell (p := ⟨A, 0, none⟩) hA).trans cA
  clear T1 b1 hpm hbm cA
  gi_wp2
  gi_loopw [10] (fun iv wr => ∃ k : Nat, k ≤ rn ∧ iv = .int .i64 k ∧ Hid (Tb pm bm wr (Rl.tab (cvs (rr.take k)))) ∧ Hid (Below W.heap.size W wr)) (fun iv _ => rn - (intOf iv).toNat)
  case atStart => exact ⟨0, Nat.zero_le _, rfl, T1', B1⟩
  case round =>
    obtain ⟨k, hk, rfl, TR, BR⟩ := hrel
    clear T1' B1 cA1
    by_cases hlt : k < rn
    · obtain ⟨⟨ce, cn, cv, cl⟩, hc⟩ : ∃ c, rr[k]? = some c := ⟨rr[k]'(by have := HRN.out; omega), by rw [List.getElem?_eq_getElem]⟩
      obtain ⟨g, off, cq, hvx, _, _, hgw, hcell⟩ := HR.out.row.row.full (by have := HRN.out; omega)
      rw [HRN.out] at hvx
      simp only [Value.slice.injEq, true_and] at hvx
      obtain ⟨rfl, rfl⟩ := hvx
      obtain ⟨c0, c1, c2⟩ := hcell k _ hc
      have hmm := List.mem_of_getElem? hc
      have hch := HG.out _ hmm
      obtain ⟨f1, f2, f3, f4, f5⟩ := fit_run hch
      have hio := ((HR.out.isc.2 _ hmm).1).below BR.out
      have d0 := (BR.out.cell (p := ⟨g, off + k * 3, none⟩) hgw).trans c0
      have d1 := (BR.out.cell (p := ⟨g, off + k * 3 + 1, none⟩) hgw).trans c1
      have d2 := (BR.out.cell (p := ⟨g, off + k * 3 + 2, none⟩) hgw).trans c2
      obtain ⟨xa, xk, hvo, _, _⟩ := hio.shape
      obtain ⟨wc, hwc, hwc2, szc, belc, bC, x0, x1, x2⟩ := new_step wr 93 (.int .i64 0) (.int .i64 0) (.slice none 0 0) (.int .i64 ce) (.int .i64 cn) cv
      have hta := aft_run (l := cvs (rr.take k)) (c := ⟨ce, cn, cl⟩) hch
      have HA := hide (tapply_any pm bm wc _ cv cl (TR.out.below belc) (hio.below belc) f1 (by have h1 := run_few HG.out k (by have := HRN.out; omega); simp only at f5; omega))
      rw [hta, show cvs (rr.take k) ++ [(⟨ce, cn, cl⟩ : Cm.Cv)] = cvs (rr.take (k + 1)) from (cvs_nx hc).symm] at HA
      simp only at c0 c1 c2 d0 d1 d2 hvo
      subst hvo
      have hlt' : (k : Int) < rn := by omega
      have hk0 : (0 : Int) ≤ (k : Int) := by omega
      have BC := hide (BR.out.trans (belc.mono BR.out.size))
      clear hcell c0 c1 c2 hc hmm hch hio f1 f2 f3 f4 TR bC belc hta
      gi_wp2_with fail
      refine ⟨trivial, fun _ => by omega, (callsIn_wide.2 HA.out).mono ?_⟩
      rintro E w2 ⟨rfl, T2, O2⟩
      have T2 := hide T2
      have B2 := hide (BC.out.trans (O2.below (fun g hg => by omega) BC.out.size))
      clear O2 HA BC
      gi_wp2
      go_roundw
      case rel => exact ⟨k + 1, by omega, by go_num, T2, B2⟩
      case measure => simp [intOf]; omega
    · have hlt' : ¬ (k : Int) < rn := by omega
      obtain rfl : k = rn := by omega
      have TE : Tb pm bm wr (Rl.tab l) := by
        have := TR.out
        rwa [List.take_of_length_le (by have := HRN.out; omega), HR.out.is] at this
      have hff : Bm.first t = 0 := Bm.first_all HT.out
      have hle : (Rl.tab l).length ≤ k * 1024 := by
        have := run_few HG.out k (by have := HRN.out; omega)
        rwa [List.take_of_length_le (by have := HRN.out; omega), HR.out.is] at this
      have HA := hide (tapply_any pm bm wr _ vo t TE (HO.out.is.below BR.out) (fit_c HT.out) (by omega))
      have hta : Tm.aft (Rl.tab l) t = fldS l t := by unfold Tm.aft; rw [if_pos hff]; rfl
      rw [hta, hff] at HA
      have hfl : (fldS l t).length ≤ 1000000 := by
        have := Tm.app_len t (Rl.tab l)
        unfold fldS
        omega
      have hft : FitO (fldS l t) := by
        refine fit_c fun o ho => ?_
        rcases Tm.mem_app t o (Rl.up_tab l) ho with e | e
        · exact Rl.ops_c HR.out.good o ((Tm.mem_app _ o Rl.up_nil e).resolve_left (by simp))
        · exact HT.out o e
      have cBr := (BR.out.cell (p := ⟨B, 0, none⟩) hB).trans cB.out
      rw [HVO.out] at HA cBr
      have HLF := hide (And.intro hfl hft)
      clear TR TE hff hta hle hfl hft cB
      gi_wp2_with fail
      refine ⟨trivial, fun _ => by omega, (callsIn_wide.2 HA.out).mono ?_⟩
      rintro E w2 ⟨rfl, T2, O2⟩
      have B2 := hide (BR.out.trans (O2.below (fun g hg => by omega) BR.out.size))
      have HLV := hide (tlive_of (.pointer (some ⟨pm, 0, none⟩)) w2 _ (tops_any pm bm w2 _ T2 HLF.out.2 HLF.out.1))
      clear HA T2 O2 BR
      gi_wp2_with fail
      refine ⟨trivial, fun _ => by omega, (callsIn_wide.2 HLV.out).mono ?_⟩
      rintro E w3 ⟨B', rfl, sq, b3⟩
      have B3 := hide (B2.out.trans (b3.mono B2.out.size))
      have sqlt := sq.lt
      obtain ⟨hb', v', h1', h2'⟩ := id sq
      have hw2 := B2.out.size
      have c0' : w3.cell? ⟨B', 0, none⟩ = some v' := blk_cell h1' 0 rfl
      have hSc : ∀ g, SeqTB B' w3 g → ∃ cs t fr, w3.heap[g]? = some (.cells cs t fr) := by
        rintro g (rfl | ⟨u, hu, hg⟩)
        · exact ⟨_, _, _, h1'⟩
        · rw [c0'] at hu
          cases hu
          obtain ⟨cs, fr, e⟩ := h2'.cel hg
          exact ⟨cs, _, fr, e⟩
      have hSo : ∀ g, SeqTB B' w3 g → g ≠ ob ∧ ¬ RowB ob w3 g := fun g hg => by
        have := (sqlt g hg).1
        exact ⟨by omega, fun e => hoW g ((RowB.of (B3.out.block ob hobW)).1 e)⟩
      have LV := hide (lvs_one n (by omega) lp B' (fldS l t) m.length (pt m) (fun i h => by rw [hm]; exact List.getElem?_eq_getElem h) (by rw [hm]) v' (SeqTB B' w3) (.inl rfl) (fun b hb => .inr ⟨v', c0', hb⟩) HLF.out.1
        (fun pre X => J pre X ∧ w3.heap.size ≤ X.heap.size ∧ (∀ g, SeqTB B' w3 g → ∃ cs t fr, X.heap[g]? = some (.cells cs t fr)) ∧ ∀ g, SeqTB B' w3 g → g ≠ ob ∧ ¬ RowB ob X g) Jx w3 (fun g hg => (sqlt g hg).2)
        (fun s X Y row hs hg hr => by
          obtain ⟨q1, q2, q3, q4⟩ := hs
          have hne : ∀ g, g < w3.heap.size → Y.heap[g]? = X.heap[g]? := fun g hg' => hg.block g (by omega) fun e => by have := (hr g e.symm).1; omega
          refine ⟨HJ.out s X Y row q1 hg fun r e => ⟨Nat.le_trans B3.out.size (hr r e).1, (hr r e).2⟩, Nat.le_trans q2 hg.size, fun g hg' => ?_, fun g hg' => ⟨(q4 g hg').1, fun e => (q4 g hg').2 ((RowB.of (hne ob (by have := B3.out.size; omega))).1 e)⟩⟩
          rw [hne g (sqlt g hg').2]
          exact q3 g hg')
        (fun pre x X hs hp => by
          obtain ⟨q1, q2, q3, q4⟩ := hs
          obtain ⟨fn, tmps, assign, body, hy, hR⟩ := HY.out pre x X q1 hp
          refine ⟨fn, tmps, assign, body, hy, hR.mono ?_⟩
          rintro e Y (⟨rfl, hj, hk⟩ | ⟨rfl, hj⟩)
          · have hkn := kq_kn hk q3 q4
            refine .inl ⟨rfl, ⟨hj, Nat.le_trans q2 hk.1, fun g hg => ?_, fun g hg => ⟨(q4 g hg).1, fun e => ?_⟩⟩, hkn⟩
            · rw [hkn g hg]
              exact q3 g hg
            · rcases hk.2.2 g e with e | e
              · exact (q4 g hg).2 e
              · have := (sqlt g hg).2
                omega
          · exact .inr ⟨rfl, hj⟩)
        c0' h2'.is ⟨abides_below HJ.out HJ0.out B3.out, Nat.le_refl _, hSc, hSo⟩)
      clear sq sqlt hb' h1' h2' hSc hSo B2 HLV
      gi_wp2_with fail
      refine ⟨trivial, fun _ => by omega, (callsIn_wide.2 (callsIn_wide.1 LV.out)).mono ?_⟩
      rintro E w4 ⟨⟨uu, rfl⟩, hfin⟩
      have HFIN := hide hfin
      clear hfin LV
      gi_wp2
      go_end0
      refine ⟨⟨_, rfl⟩, ?_⟩
      rcases HFIN.out with ⟨xs, hx, hj, _⟩ | hj
      · exact .inl ⟨xs, hx, hj⟩
      · exact .inr hj

end Go.Proofs.YthmecljkackmbaaGreat

/- The statement's own: what a store goes over, as puts (all). -/
namespace Go.Proofs.YthmecljkackmbaaGreat
open Go.RowKit Go.Maps Go.Shelf
open Bm (Ov)
set_option linter.unusedVariables false
attribute [local go_sem] Oper.semAt_some

/-- 'append(out, o)' of ops inside a round, and where the list lies then. -/
theorem wpListIn_append_opsA {F : Fence} {nf : Nat} {P : Program} {w : World} {ops : Array Oper} {rest : List Oper} {o : Oper} {a : Act} {Q : Exit → Act → World → Prop} (hgd : o.guard = none) (s x : Operand) (t : TypeId)
    (ho : o.op = .call { callee := .builtin .append, args := #[s, x], argTypes := #[t, t] })
    (e : TypeId) (base : Nat) (ht : P.underlying t = some (.slice e)) (hinfo : (P.info? e).map (fun i => (i.zero, i.size, i.bytes)) = some (some (.agg #[.bool false, .string ⟨#[]⟩, .string ⟨#[]⟩]), 3, 40))
    (v : Value) (l : List Ov) (hs : a.eval s = v) (hown : OwnO e base w v l) (vx : Value) (m : List Ov) (hx : a.eval x = vx) (his : IsO w vx m)
    (hlen : (l.length + m.length) * 40 ≤ 140737488355328) (hbase : base ≤ w.heap.size)
    (h : ∀ v' w', OwnO e base w' v' (l ++ m) → Below base w w' → w.grownBy w' v.ownBlock → (v'.ownBlock = v.ownBlock ∨ v'.ownBlock = some w.heap.size) → wpListIn F nf P ops Q rest (a.put o.dst v') w') : wpListIn F nf P ops Q (o :: rest) a w := by
  refine wpListIn_plain hgd fun K hK' => ?_
  obtain ⟨v', w', hrun, r1, r2, r3⟩ := run_append_ops_at (P := P) (w := w) t o.type e base ht hinfo v l hown vx m his hlen hbase
  unfold Oper.wpIn
  refine ⟨?_, ?_⟩
  · simp [Oper.about, ho, resolve, Target.leads, Sem.run_pure]
  · rw [Oper.semAt_plain F _ _ (by rw [ho]; intro c hc'; cases hc')]
    simp [execOp, ho, resolve, invoke, builtin, hs, hx, hrun, Result.andThen]
    exact hK' _ _ (h v' w' r1 ((Below.refl _ _).grown r2 hbase fun k' hk => (World.ownsRow.lt hown k' hk).1) r2 r3)

/-- A round that gathers one writes no more. -/
theorem kq_app {ob : Nat} {W V w' : World} {v v' : Value} (h1 : W.heap[ob]? = some (.cells #[v] 53 (0, 0))) (hV : Below W.heap.size W V) (hg : V.grownBy w' v.ownBlock) (hl : v'.ownBlock = v.ownBlock ∨ v'.ownBlock = some V.heap.size) (hb : w'.heap[ob]? = some (.cells #[v] 53 (0, 0))) : Kq ob W (w'.setCell ⟨ob, 0, none⟩ v') := by
  have c0 : W.cell? ⟨ob, 0, none⟩ = some v := blk_cell h1 0 rfl
  have hX : (w'.setCell ⟨ob, 0, none⟩ v').heap[ob]? = some (.cells #[v'] 53 (0, 0)) := by rw [set_cells hb]; rfl
  have c1 : (w'.setCell ⟨ob, 0, none⟩ v').cell? ⟨ob, 0, none⟩ = some v' := blk_cell hX 0 rfl
  have gX := grown_setCell w' ⟨ob, 0, none⟩ v'
  have s1 := hV.size
  have s2 := hg.size
  have s3 := gX.size
  refine ⟨by omega, fun g cs t fr h2 h3 h4 => ?_, fun g h2 => ?_⟩
  · have hgW := blk_lt h2
    rw [gX.block g (by omega) (fun e => h3 (by simpa using e)), hg.block g (by omega) (fun e => h4 ⟨v, c0, e.symm⟩), hV.block g hgW]
    exact h2
  · obtain ⟨u, hu, hgu⟩ := h2
    rw [c1] at hu
    cases hu
    rcases hl with e | e
    · exact .inl ⟨v, c0, by rw [← e]; exact hgu⟩
    · rw [e] at hgu
      simp at hgu
      exact .inr (by omega)

set_option maxRecDepth 100000 in
set_option maxHeartbeats 8000000 in
theorem sall_of (tv : Value) (w : World) (l : List Cm.Cv) (t : List Ov) (n : Nat) (ht : ∀ o ∈ t, o.c = 0) (hL : l.length * 1024 + t.length ≤ 900000) (hm : ∀ w1, Below w.heap.size w w1 → Calls Tryz.prog 82 #[tv] w1 fun E w' => ∃ A B, E = .returned (.func (.func 147) #[] #[.pointer (some ⟨A, 0, none⟩), .pointer (some ⟨B, 0, none⟩)]) ∧ SeqS A B w1.heap.size w' l t ∧ Below w1.heap.size w1 w') :
    Calls Tryz.prog 31 #[tv, .int .i64 n] w fun E w' => ∃ v, E = .returned v ∧ OwnO 81 w.heap.size w' v ((Tm.live (fldS l t)).take n) ∧ Below w.heap.size w w' := by
  obtain ⟨m, hmm⟩ : ∃ m, Tm.live (fldS l t) = m := ⟨_, rfl⟩
  have HP : Hid (∀ x : Nx m.length, (pt m x).p = true) := hide (by subst hmm; exact live_p _)
  obtain ⟨W1, hW1, sz1, b1, B1⟩ := blk_step w #[.int .i64 n] 3
  obtain ⟨W2, hW2, sz2, b2, B2⟩ := blk_step W1 #[.slice none 0 0] 53
  rw [sz1] at B2 b2
  replace sz2 : W2.heap.size = w.heap.size + 2 := by omega
  have b02 : Below w.heap.size w W2 := b1.trans (b2.mono (by omega))
  have HALL := hide (hm W2 b02)
  have HB1 := hide ((b2.block w.heap.size (by omega)).trans B1)
  have HB2 := hide B2
  have Hb02 := hide b02
  rw [hmm]
  clear hm B1 B2 b1 b2 b02
  refine (callsIn_wide (n := 6)).1 ?_
  refine callsIn_of_wp_marks Tryz.func31 rfl trivial ?_ rfl
  simp only [Tryz.ntmps31, List.size_toArray, List.length_cons, List.length_nil, Nat.reduceAdd, Nat.reduceSub, Array.replicate_succ, Array.replicate_zero, List.push_toArray, List.append_toArray, List.nil_append, List.cons_append]
  gi_wp2_with fail
  refine ⟨trivial, (callsIn_wide.2 HALL.out).mono ?_⟩
  rintro E W3 ⟨A, B, rfl, sq, b3⟩
  have sz3 : w.heap.size + 2 ≤ W3.heap.size := by have := b3.size; omega
  have HN3 := hide ((b3.block w.heap.size (by omega)).trans HB1.out)
  have HO3 := hide ((b3.block (w.heap.size + 1) (by omega)).trans HB2.out)
  have hor : ∀ g, ¬ RowB (w.heap.size + 1) W3 g := by
    rintro g ⟨u, hu, hg⟩
    have c0 : W3.cell? ⟨w.heap.size + 1, 0, none⟩ = some (.slice none 0 0) := blk_cell HO3.out 0 rfl
    rw [c0] at hu
    cases hu
    simp [Value.ownBlock] at hg
  have hob : w.heap.size + 1 < W3.heap.size := by omega
  have HSEQ := hide (all_seq 5 (by omega) A B W2.heap.size (w.heap.size + 1) l t W3 sq ht hL hob hor m hmm)
  have Hb3 := hide (Hb02.out.trans (b3.mono (by omega)))
  have hmL : m.length ≤ 900000 := by
    rw [← hmm]
    have h1 : (Tm.live (fldS l t)).length ≤ (fldS l t).length := List.length_filter_le _ _
    have h2 := Tm.app_len t (Rl.tab l)
    obtain ⟨vr, rr, vo, _, _, _, _, g5, _⟩ := sq
    have h3 := run_few (good_get g5.good g5.is) rr.length (Nat.le_refl _)
    rw [List.take_length, g5.is, g5.len] at h3
    unfold fldS at h1 ⊢
    omega
  clear sq b3 hW1 hW2 hor hmm
  gi_wp2_with fail
  apply wpIn_rangeFunc_ownH rfl (by omega) (gf := 147) (lb := #[.pointer (some ⟨A, 0, none⟩), .pointer (some ⟨B, 0, none⟩)]) rfl trivial (enters_of Tryz.func147 (by kernel_rfl) rfl) (encs := fun x : Nx m.length => #[.string (pt m x).k, .string (pt m x).v]) (Kp := Kq (w.heap.size + 1)) (S := fun xs => xs = upn m.length m.length) (Sp := fun pre => ∃ k, k ≤ m.length ∧ pre = upn m.length k) (N := m.length) (w0 := W3) HSEQ.out Kq.trans (kq_b hob) (Below.refl _ _) (fun _ => rfl)
    (fun pre W => pre.length ≤ n ∧ RI (w.heap.size + 1) W3 (pts m pre) W)
    (fun c pre W => c = .exit 0 ∧ pre.length = n + 1 ∧ RI (w.heap.size + 1) W3 ((pts m pre).take n) W)
    (fun s X Y row hs hg hr => ⟨hs.1, hs.2.grown hob hg hr⟩)
    (fun c s X Y row hs hg hr => ⟨hs.1, hs.2.1, hs.2.2.grown hob hg hr⟩)
    ⟨by simp, .slice none 0 0, HO3.out, OwnO.nil _ _ _, Out.refl _ _⟩
    (fun x a' W => a' = { tmps := #[tv, .int .i64 n, undef, .pointer (some ⟨w.heap.size, 0, none⟩), .slice none 0 0, .pointer (some ⟨w.heap.size + 1, 0, none⟩), .string (pt m x).k, .string (pt m x).v, tv, .func (.func 147) #[] #[.pointer (some ⟨A, 0, none⟩), .pointer (some ⟨B, 0, none⟩)], .string (pt m x).k, .string (pt m x).v, undef, undef, undef, undef, undef, undef, undef, undef, undef, undef, undef], defers := [] })
    (fun x a' s X Y row hs hg hr => hs)
  case hassign =>
    rintro l0 pre x W K hI hK
    obtain ⟨o, ho⟩ : ∃ o, pt m x = o := ⟨_, rfl⟩
    rw [ho] at hK ⊢
    have HKK := hide (hK _ W (KeepsFrom.refl _ _) ⟨Nat.le_refl _, fun g cs t fr h _ _ => h, fun g h => .inl h⟩ hI rfl)
    clear hK hI
    gi_wp2
    exact HKK.out
  case hbody =>
    rintro l0 pre x a' W _ _ ⟨hpl, v, h1, h2, h3⟩ rfl hlt0
    have hlen : (pts m pre).length = pre.length := pts_len m pre
    obtain ⟨ao, cap, hv, _, _⟩ := h2.is.shape
    rw [hlen] at hv
    have hW3 := h3.size
    have c1 := blk_cell h1 0 rfl
    have cn : W.cell? ⟨w.heap.size, 0, none⟩ = some (.int .i64 n) := blk_cell ((h3.block w.heap.size (by omega) (by omega)).trans HN3.out) 0 rfl
    have hsn := pts_snoc m pre x
    have hp := HP.out x
    obtain ⟨o, ho⟩ : ∃ o, pt m x = o := ⟨_, rfl⟩
    rw [ho] at hsn hp ⊢
    by_cases hend : pre.length = n
    · have hE : ((pre.length : Int) == (n : Int)) = true := by simp [hend]
      have HX : Hid (RI (w.heap.size + 1) W3 ((pts m (pre ++ [x])).take n) W) := hide ⟨v, h1, by rw [hsn, List.take_append_of_le_length (by omega), List.take_of_length_le (by omega)]; exact h2, h3⟩
      have HPL : Hid ((pre ++ [x]).length = n + 1) := hide (by simp [hend])
      subst hv
      clear h2 h3 h1 hsn hlen hpl ho
      gi_wp2
      exact ⟨KeepsFrom.refl _ _, rfl, HPL.out, HX.out⟩
    · have hE : ((pre.length : Int) == (n : Int)) = false := by simp; omega
      have hE2 : ¬ (pre.length : Int) = (n : Int) := by omega
      obtain ⟨V, hV, szV, bV, ownV⟩ := ops_step 81 W #[.bool true, .string o.k, .string o.v] 1 [o] rfl (by simp [ocells, ocell, hp]) (by simp [maxLen])
      have own2 := h2.below bV
      have isV := ownV.is
      have hb40 : ((pts m pre).length + [o].length) * 40 ≤ 140737488355328 := by rw [hlen]; simp; omega
      have hzV : W3.heap.size ≤ V.heap.size := by omega
      have HFIN : Hid (∀ v' w', OwnO 81 W3.heap.size w' v' (pts m pre ++ [o]) → Below W3.heap.size V w' → V.grownBy w' v.ownBlock → (v'.ownBlock = v.ownBlock ∨ v'.ownBlock = some V.heap.size) → (w'.cell? ⟨w.heap.size + 1, 0, none⟩ = some v ∧ w'.frozen? ⟨w.heap.size + 1, 0, none⟩ = false) ∧ KeepsFrom W3.heap.size W (w'.setCell ⟨w.heap.size + 1, 0, none⟩ v') ∧ Kq (w.heap.size + 1) W (w'.setCell ⟨w.heap.size + 1, 0, none⟩ v') ∧ (pre ++ [x]).length ≤ n ∧ RI (w.heap.size + 1) W3 (pts m (pre ++ [x])) (w'.setCell ⟨w.heap.size + 1, 0, none⟩ v')) := hide fun v' w' ho' hb' hg' hl' => by
        obtain ⟨r1, r2⟩ := RI.app hob hW3 h1 h3 bV ho' hb'
        refine ⟨⟨blk_cell r2 0 rfl, blk_froz r2 0⟩, ?_, kq_app h1 bV hg' hl' r2, by simp; omega, by rw [hsn]; exact r1⟩
        have k1 : KeepsOthers W V := ⟨bV.size, fun k o hk _ => (bV.block k (blk_lt hk)).trans hk⟩
        have k2 : KeepsOthers V w' := grown_ko hg' fun g hg => by obtain ⟨cs, fr, h⟩ := own2.cel hg; exact ⟨cs, _, fr, h⟩
        exact ((k1.trans k2).trans (KeepsOthers.setCell _ _ _)).from _
      have hinf := Tryz.info81
      have HV := hide hv
      rw [hv] at c1 own2
      clear h2 h3 h1 hsn hlen hpl bV ownV hv hp ho
      gi_wp2_with (gi_at_builtin; refine wpListIn_append_opsA rfl (.tmp 16) (.tmp 20) 53 rfl 81 W3.heap.size Tryz.underlying53 hinf _ (pts m pre) rfl own2 (.slice (some ⟨W.heap.size, 0, none⟩) 1 1) [o] rfl isV hb40 hzV ?_)
      intro v' w' ho' hb' hg' hl'
      obtain ⟨ao2, cap2, hsh2, _, _⟩ := ho'.is.shape
      obtain ⟨L2, hL2⟩ : ∃ L2, (pts m pre ++ [o]).length = L2 := ⟨_, rfl⟩
      rw [hL2] at hsh2
      clear hL2
      subst hsh2
      have HH := hide (HFIN.out _ w' ho' hb' (by rw [HV.out]; exact hg') (by rw [HV.out, szV]; exact hl'))
      have cz := HH.out.1.1
      have fz := HH.out.1.2
      rw [HV.out] at cz
      clear ho' hb' hg' hl' c1 cn own2 isV
      gi_wp2
      exact HH.out.2
  case hdone =>
    rintro D xs W hD rfl ⟨hpl, v, h1, h2, h3⟩ hK
    rw [pts_all] at h2
    rw [upn_len _ _ (Nat.le_refl _)] at hpl
    have c1 := blk_cell h1 0 rfl
    have hE : Hid (OwnO 81 w.heap.size W v (m.take n) ∧ Below w.heap.size w W) := hide ⟨by rw [List.take_of_length_le hpl]; exact h2.rebase (by omega), Hb3.out.trans (h3.below (fun g hg => by omega) (by omega))⟩
    have HKD := hide hK
    have hD' : w.heap.size ≤ D := by omega
    clear h1 h2 h3 hK
    gi_wp2
    refine ⟨by simp, .inl ⟨_, _, rfl, run_takeDeferred HKD.out, ?_⟩⟩
    obtain ⟨f1, f2⟩ := fin_put hE.out hD' HKD.out
    refine ⟨v, ?_, v, rfl, f1, f2⟩
    simp [results, Tryz.results31, go_sem]
  case hstop =>
    rintro D c pre W hD ⟨k0, hk1, hk2⟩ ⟨rfl, hpl, v, h1, h2, h3⟩ hK
    rw [hk2, upn_len _ _ hk1] at hpl
    rw [hk2, pts_up m k0 hk1, List.take_take, Nat.min_eq_left (by omega)] at h2
    have c1 := blk_cell h1 0 rfl
    have hE : Hid (OwnO 81 w.heap.size W v (m.take n) ∧ Below w.heap.size w W) := hide ⟨h2.rebase (by omega), Hb3.out.trans (h3.below (fun g hg => by omega) (by omega))⟩
    have HKD := hide hK
    have hD' : w.heap.size ≤ D := by omega
    clear h1 h2 h3 hK
    gi_wp2
    refine ⟨by simp, .inl ⟨_, _, rfl, run_takeDeferred HKD.out, ?_⟩⟩
    obtain ⟨f1, f2⟩ := fin_put hE.out hD' HKD.out
    refine ⟨v, ?_, v, rfl, f1, f2⟩
    simp [results, Tryz.results31, go_sem]

end Go.Proofs.YthmecljkackmbaaGreat
