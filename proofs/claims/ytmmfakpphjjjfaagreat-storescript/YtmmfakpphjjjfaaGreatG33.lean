/- Texts of one layer, one behind the other. -/
import Derived.Test.YtmmfakpphjjjfaaGreatG32
import Derived.Test.YtmmfakpphjjjfaaGreatG18
import Derived.Test.YtmmfakpphjjjfaaGreatG25
import Derived.Deep.RegionHeld3
/- The statement's own: what a store goes over, as puts (all). -/
namespace Go.Proofs.YtmmfakpphjjjfaaGreat
open Go.RowKit Go.Maps Go.Shelf
open Bm (Ov)
set_option linter.unusedVariables false
attribute [local go_sem] Oper.semAt_some

theorem wpListIn_append_opsA {F : Fence} {nf : Nat} {P : Program} {w : World} {ops : Array Oper} {rest : List Oper} {o : Oper} {a : Act} {Q : Exit → Act → World → Prop} (hgd : o.guard = none) (s x : Operand) (t : TypeId)
  (ho : o.op = .call { callee := .builtin .append, args := #[s, x], argTypes := #[t, t] })
  (e : TypeId) (base : Nat) (ht : P.underlying t = some (.slice e)) (hinfo : (P.info? e).map (fun i => (i.zero, i.size, i.bytes)) = some (some (.agg #[.bool false, .string ⟨#[]⟩, .string ⟨#[]⟩]), 3, 40))
  (v : Value) (l : List Ov) (hs : a.eval s = v) (hown : OwnO e base w v l) (vx : Value) (m : List Ov) (hx : a.eval x = vx) (his : IsO w vx m)
  (hlen : (l.length + m.length) * 40 ≤ 140737488355328) (hbase : base ≤ w.heap.size)
  (h : ∀ v' w', OwnO e base w' v' (l ++ m) → Below base w w' → w.grownBy w' v.ownBlock → (v'.ownBlock = v.ownBlock ∨ v'.ownBlock = some w.heap.size) → wpListIn F nf P ops Q rest (a.put o.dst v') w') : wpListIn F nf P ops Q (o :: rest) a w := by
 refine wpListIn_plain hgd fun K hK' => ?_
 obtain ⟨v', w', hrun, r1, r2, r3⟩ := run_append_ops_at (P := P) (w := w) t o.type e base ht hinfo v l hown vx m his hlen hbase
 unfold Oper.wpIn
 refine ⟨?_, ?_⟩
 ·simp [Oper.about, ho, resolve, Target.leads, Sem.run_pure]
 ·rw [Oper.semAt_plain F _ _ (by rw [ho]; intro c hc'; cases hc')]
  simp [execOp, ho, resolve, invoke, builtin, hs, hx, hrun, Result.andThen]
  exact hK' _ _ (h v' w' r1 ((Below.refl _ _).grown r2 hbase fun k' hk => (World.ownsRow.lt hown k' hk).1) r2 r3)

theorem kq_app {ob : Nat} {W V w' : World} {v v' : Value} (h1 : W.heap[ob]? = some (.cells #[v] 48 (0, 0))) (hV : Below W.heap.size W V) (hg : V.grownBy w' v.ownBlock) (hl : v'.ownBlock = v.ownBlock ∨ v'.ownBlock = some V.heap.size) (hb : w'.heap[ob]? = some (.cells #[v] 48 (0, 0))) : Kq ob W (w'.setCell ⟨ob, 0, none⟩ v') := by
 have c0 : W.cell? ⟨ob, 0, none⟩ = some v := blk_cell h1 0 rfl
 have hX : (w'.setCell ⟨ob, 0, none⟩ v').heap[ob]? = some (.cells #[v'] 48 (0, 0)) := by rw [set_cells hb]; rfl
 have c1 : (w'.setCell ⟨ob, 0, none⟩ v').cell? ⟨ob, 0, none⟩ = some v' := blk_cell hX 0 rfl
 have gX := grown_setCell w' ⟨ob, 0, none⟩ v'
 have s1 := hV.size
 have s2 := hg.size
 have s3 := gX.size
 refine ⟨by omega, fun g cs t fr h2 h3 h4 => ?_, fun g h2 => ?_⟩
 ·have hgW := blk_lt h2
  rw [gX.block g (by omega) (fun e => h3 (by simpa using e)), hg.block g (by omega) (fun e => h4 ⟨v, c0, e.symm⟩), hV.block g hgW]
  exact h2
 ·obtain ⟨u, hu, hgu⟩ := h2
  rw [c1] at hu
  cases hu
  rcases hl with e | e
  ·exact .inl ⟨v, c0, by rw [← e]; exact hgu⟩
  ·rw [e] at hgu
   simp at hgu
   exact .inr (by omega)

set_option maxRecDepth 100000 in
set_option maxHeartbeats 8000000 in
theorem sall_of (tv : Value) (w : World) (l : List Cm.Cv) (t : List Ov) (n : Nat) (ht : ∀ o ∈ t, o.c = 0) (hL : l.length * 1024 + t.length ≤ 900000) (hm : ∀ w1, Below w.heap.size w w1 → Calls Tryz.prog 58 #[tv] w1 fun E w' => ∃ A B, E = .returned (.func (.func 102) #[] #[.pointer (some ⟨A, 0, none⟩), .pointer (some ⟨B, 0, none⟩)]) ∧ SeqS A B w1.heap.size w' l t ∧ Below w1.heap.size w1 w') :
  Calls Tryz.prog 21 #[tv, .int .i64 n] w fun E w' => ∃ v, E = .returned v ∧ OwnO 65 w.heap.size w' v ((Tm.live (fldS l t)).take n) ∧ Below w.heap.size w w' := by
 obtain ⟨m, hmm⟩ : ∃ m, Tm.live (fldS l t) = m := ⟨_, rfl⟩
 have HP : Hid (∀ x : Nx m.length, (pt m x).p = true) := hide (by subst hmm; exact live_p _)
 obtain ⟨W1, hW1, sz1, b1, B1⟩ := blk_step w #[.int .i64 n] 3
 obtain ⟨W2, hW2, sz2, b2, B2⟩ := blk_step W1 #[.slice none 0 0] 48
 rw [sz1] at B2 b2
 replace sz2 : W2.heap.size = w.heap.size + 2 := by omega
 have b02 : Below w.heap.size w W2 := b1.trans (b2.mono (by omega))
 have HALL := hide (hm W2 b02)
 have HB1 := hide ((b2.block w.heap.size (by omega)).trans B1)
 have HB2 := hide B2
 have Hb02 := hide b02
 rw [hmm]
 clear hm B1 B2 b1 b2 b02
 refine (callsIn_wide (n := 6)).1 ?_
 refine callsIn_of_wp_marks Tryz.func21 rfl trivial ?_ rfl
 simp only [Tryz.ntmps21, List.size_toArray, List.length_cons, List.length_nil, Nat.reduceAdd, Nat.reduceSub, Array.replicate_succ, Array.replicate_zero, List.push_toArray, List.append_toArray, List.nil_append, List.cons_append]
 gi_wp2_with fail
 refine ⟨trivial, (callsIn_wide.2 HALL.out).mono ?_⟩
 rintro E W3 ⟨A, B, rfl, sq, b3⟩
 have sz3 : w.heap.size + 2 ≤ W3.heap.size := by have := b3.size; omega
 have HN3 := hide ((b3.block w.heap.size (by omega)).trans HB1.out)
 have HO3 := hide ((b3.block (w.heap.size + 1) (by omega)).trans HB2.out)
 have hor : ∀ g, ¬ RowB (w.heap.size + 1) W3 g := by
  rintro g ⟨u, hu, hg⟩
  have c0 : W3.cell? ⟨w.heap.size + 1, 0, none⟩ = some (.slice none 0 0) := blk_cell HO3.out 0 rfl
  rw [c0] at hu
  cases hu
  simp [Value.ownBlock] at hg
 have hob : w.heap.size + 1 < W3.heap.size := by omega
 have HSEQ := hide (all_seq 5 (by omega) A B W2.heap.size (w.heap.size + 1) l t W3 sq ht hL hob hor m hmm)
 have Hb3 := hide (Hb02.out.trans (b3.mono (by omega)))
 have hmL : m.length ≤ 900000 := by
  rw [← hmm]
  have h1 : (Tm.live (fldS l t)).length ≤ (fldS l t).length := List.length_filter_le _ _
  have h2 := Tm.app_len t (Rl.tab l)
  obtain ⟨vr, rr, vo, _, _, _, _, g5, _⟩ := sq
  have h3 := run_few (good_get g5.good g5.is) rr.length (Nat.le_refl _)
  rw [List.take_length, g5.is, g5.len] at h3
  unfold fldS at h1 ⊢
  omega
 clear sq b3 hW1 hW2 hor hmm
 gi_wp2_with fail
 apply wpIn_rangeFunc_ownH rfl (by omega) (gf := 102) (lb := #[.pointer (some ⟨A, 0, none⟩), .pointer (some ⟨B, 0, none⟩)]) rfl trivial (enters_of Tryz.func102 (by kernel_rfl) rfl) (encs := fun x : Nx m.length => #[.string (pt m x).k, .string (pt m x).v]) (Kp := Kq (w.heap.size + 1)) (S := fun xs => xs = upn m.length m.length) (Sp := fun pre => ∃ k, k ≤ m.length ∧ pre = upn m.length k) (N := m.length) (w0 := W3) HSEQ.out Kq.trans (kq_b hob) (Below.refl _ _) (fun _ => rfl)
  (fun pre W => pre.length ≤ n ∧ RI (w.heap.size + 1) W3 (pts m pre) W)
  (fun c pre W => c = .exit 0 ∧ pre.length = n + 1 ∧ RI (w.heap.size + 1) W3 ((pts m pre).take n) W)
  (fun s X Y row hs hg hr => ⟨hs.1, hs.2.grown hob hg hr⟩)
  (fun c s X Y row hs hg hr => ⟨hs.1, hs.2.1, hs.2.2.grown hob hg hr⟩)
  ⟨by simp, .slice none 0 0, HO3.out, OwnO.nil _ _ _, Out.refl _ _⟩
  (fun x a' W => a' = { tmps := #[tv, .int .i64 n, undef, .pointer (some ⟨w.heap.size, 0, none⟩), .slice none 0 0, .pointer (some ⟨w.heap.size + 1, 0, none⟩), .string (pt m x).k, .string (pt m x).v, tv, .func (.func 102) #[] #[.pointer (some ⟨A, 0, none⟩), .pointer (some ⟨B, 0, none⟩)], .string (pt m x).k, .string (pt m x).v, undef, undef, undef, undef, undef, undef, undef, undef, undef, undef, undef], defers := [] })
  (fun x a' s X Y row hs hg hr => hs)
 case hassign =>
  rintro l0 pre x W K hI hK
  obtain ⟨o, ho⟩ : ∃ o, pt m x = o := ⟨_, rfl⟩
  rw [ho] at hK ⊢
  have HKK := hide (hK _ W (KeepsFrom.refl _ _) ⟨Nat.le_refl _, fun g cs t fr h _ _ => h, fun g h => .inl h⟩ hI rfl)
  clear hK hI
  gi_wp2
  exact HKK.out
 case hbody =>
  rintro l0 pre x a' W _ _ ⟨hpl, v, h1, h2, h3⟩ rfl hlt0
  have hlen : (pts m pre).length = pre.length := pts_len m pre
  obtain ⟨ao, cap, hv, _, _⟩ := h2.is.shape
  rw [hlen] at hv
  have hW3 := h3.size
  have c1 := blk_cell h1 0 rfl
  have cn : W.cell? ⟨w.heap.size, 0, none⟩ = some (.int .i64 n) := blk_cell ((h3.block w.heap.size (by omega) (by omega)).trans HN3.out) 0 rfl
  have hsn := pts_snoc m pre x
  have hp := HP.out x
  obtain ⟨o, ho⟩ : ∃ o, pt m x = o := ⟨_, rfl⟩
  rw [ho] at hsn hp ⊢
  by_cases hend : pre.length = n
  ·have hE : ((pre.length : Int) == (n : Int)) = true := by simp [hend]
   have HX : Hid (RI (w.heap.size + 1) W3 ((pts m (pre ++ [x])).take n) W) := hide ⟨v, h1, by rw [hsn, List.take_append_of_le_length (by omega), List.take_of_length_le (by omega)]; exact h2, h3⟩
   have HPL : Hid ((pre ++ [x]).length = n + 1) := hide (by simp [hend])
   subst hv
   clear h2 h3 h1 hsn hlen hpl ho
   gi_wp2
   exact ⟨KeepsFrom.refl _ _, rfl, HPL.out, HX.out⟩
  ·have hE : ((pre.length : Int) == (n : Int)) = false := by simp; omega
   have hE2 : ¬ (pre.length : Int) = (n : Int) := by omega
   obtain ⟨V, hV, szV, bV, ownV⟩ := ops_step 65 W #[.bool true, .string o.k, .string o.v] 1 [o] rfl (by simp [ocells, ocell, hp]) (by simp [maxLen])
   have own2 := h2.below bV
   have isV := ownV.is
   have hb40 : ((pts m pre).length + [o].length) * 40 ≤ 140737488355328 := by rw [hlen]; simp; omega
   have hzV : W3.heap.size ≤ V.heap.size := by omega
   have HFIN : Hid (∀ v' w', OwnO 65 W3.heap.size w' v' (pts m pre ++ [o]) → Below W3.heap.size V w' → V.grownBy w' v.ownBlock → (v'.ownBlock = v.ownBlock ∨ v'.ownBlock = some V.heap.size) → (w'.cell? ⟨w.heap.size + 1, 0, none⟩ = some v ∧ w'.frozen? ⟨w.heap.size + 1, 0, none⟩ = false) ∧ KeepsFrom W3.heap.size W (w'.setCell ⟨w.heap.size + 1, 0, none⟩ v') ∧ Kq (w.heap.size + 1) W (w'.setCell ⟨w.heap.size + 1, 0, none⟩ v') ∧ (pre ++ [x]).length ≤ n ∧ RI (w.heap.size + 1) W3 (pts m (pre ++ [x])) (w'.setCell ⟨w.heap.size + 1, 0, none⟩ v')) := hide fun v' w' ho' hb' hg' hl' => by
    obtain ⟨r1, r2⟩ := RI.app hob hW3 h1 h3 bV ho' hb'
    refine ⟨⟨blk_cell r2 0 rfl, blk_froz r2 0⟩, ?_, kq_app h1 bV hg' hl' r2, by simp; omega, by rw [hsn]; exact r1⟩
    have k1 : KeepsOthers W V := ⟨bV.size, fun k o hk _ => (bV.block k (blk_lt hk)).trans hk⟩
    have k2 : KeepsOthers V w' := grown_ko hg' fun g hg => by obtain ⟨cs, fr, h⟩ := own2.cel hg; exact ⟨cs, _, fr, h⟩
    exact ((k1.trans k2).trans (KeepsOthers.setCell _ _ _)).from _
   have hinf := Tryz.info65
   have HV := hide hv
   rw [hv] at c1 own2
   clear h2 h3 h1 hsn hlen hpl bV ownV hv hp ho
   gi_wp2_with (gi_at_builtin; refine wpListIn_append_opsA rfl (.tmp 16) (.tmp 20) 48 rfl 65 W3.heap.size Tryz.underlying48 hinf _ (pts m pre) rfl own2 (.slice (some ⟨W.heap.size, 0, none⟩) 1 1) [o] rfl isV hb40 hzV ?_)
   intro v' w' ho' hb' hg' hl'
   obtain ⟨ao2, cap2, hsh2, _, _⟩ := ho'.is.shape
   obtain ⟨L2, hL2⟩ : ∃ L2, (pts m pre ++ [o]).length = L2 := ⟨_, rfl⟩
   rw [hL2] at hsh2
   clear hL2
   subst hsh2
   have HH := hide (HFIN.out _ w' ho' hb' (by rw [HV.out]; exact hg') (by rw [HV.out, szV]; exact hl'))
   have cz := HH.out.1.1
   have fz := HH.out.1.2
   rw [HV.out] at cz
   clear ho' hb' hg' hl' c1 cn own2 isV
   gi_wp2
   exact HH.out.2
 case hdone =>
  rintro D xs W hD rfl ⟨hpl, v, h1, h2, h3⟩ hK
  rw [pts_all] at h2
  rw [upn_len _ _ (Nat.le_refl _)] at hpl
  have c1 := blk_cell h1 0 rfl
  have hE : Hid (OwnO 65 w.heap.size W v (m.take n) ∧ Below w.heap.size w W) := hide ⟨by rw [List.take_of_length_le hpl]; exact h2.rebase (by omega), Hb3.out.trans (h3.below (fun g hg => by omega) (by omega))⟩
  have HKD := hide hK
  have hD' : w.heap.size ≤ D := by omega
  clear h1 h2 h3 hK
  gi_wp2
  refine ⟨by simp, .inl ⟨_, _, rfl, run_takeDeferred HKD.out, ?_⟩⟩
  obtain ⟨f1, f2⟩ := fin_put hE.out hD' HKD.out
  refine ⟨v, ?_, v, rfl, f1, f2⟩
  simp [results, Tryz.results21, go_sem]
 case hstop =>
  rintro D c pre W hD ⟨k0, hk1, hk2⟩ ⟨rfl, hpl, v, h1, h2, h3⟩ hK
  rw [hk2, upn_len _ _ hk1] at hpl
  rw [hk2, pts_up m k0 hk1, List.take_take, Nat.min_eq_left (by omega)] at h2
  have c1 := blk_cell h1 0 rfl
  have hE : Hid (OwnO 65 w.heap.size W v (m.take n) ∧ Below w.heap.size w W) := hide ⟨h2.rebase (by omega), Hb3.out.trans (h3.below (fun g hg => by omega) (by omega))⟩
  have HKD := hide hK
  have hD' : w.heap.size ≤ D := by omega
  clear h1 h2 h3 hK
  gi_wp2
  refine ⟨by simp, .inl ⟨_, _, rfl, run_takeDeferred HKD.out, ?_⟩⟩
  obtain ⟨f1, f2⟩ := fin_put hE.out hD' HKD.out
  refine ⟨v, ?_, v, rfl, f1, f2⟩
  simp [results, Tryz.results21, go_sem]

end Go.Proofs.YtmmfakpphjjjfaaGreat

/- Flush. -/
namespace Go.Proofs.YtmmfakpphjjjfaaGreat
open Go.RowKit
set_option linter.unusedVariables false

theorem Tryz.enters124 : ∀ args w, (callFunc 124 args).run Tryz.prog w = .ok (.enter 124 args) w := enters_of Tryz.func124 (by kernel_rfl) rfl

theorem rk_push {p q : Nat} {F1 : Nat → Prop} {w wc : World} {d : Dm.Ds} {l : List Cm.Cv} {bk : Bool} {v : Value} {rs : List Cw} {c : Cw} (h1 : Pk q F1 w d) (hv : RkV p q w l bk v rs) (hb : Below w.heap.size w wc) (hc : OwnO 65 w.heap.size wc c.v c.l) (hg : Rl.Good 0 (l ++ [c.c])) (ty : TypeId) :
  ∃ V, wc.alloc (.cells #[.int .i64 c.e, .int .i64 c.n, c.v] 112) = V ∧ V.cell? ⟨p, 2, none⟩ = some v ∧ ∃ v2 w2, (Builtin.append_ #[76, 76] ty #[v, .slice (some ⟨wc.heap.size, 0, none⟩) 1 1]).run Tryz.prog V = .ok v2 w2 ∧ w2.cell? ⟨p, 2, none⟩ = some v ∧ w2.frozen? ⟨p, 2, none⟩ = false ∧ (∃ a n k, v2 = .slice a n k) ∧
   (∃ F', RW p q F' (w2.setCell ⟨p, 2, none⟩ v2) ⟨d, l ++ [c.c], bk⟩ ∧ Out (fun g => F1 g ∨ g = p ∨ QB v rs g) w (w2.setCell ⟨p, 2, none⟩ v2) ∧ ∀ g, F' g → (F1 g ∨ g = p ∨ QB v rs g) ∨ w.heap.size ≤ g) := by
 have hsz := hb.size
 obtain ⟨V, hV, szV, belV, ownV⟩ := coms_step 112 wc #[.int .i64 c.e, .int .i64 c.n, c.v] 1 [c] rfl rfl (by simp [maxLen])
 have bwV := hb.trans (belV.mono hsz)
 have qV := hv.log.below bwV
 have BV := (bwV.block p (blk_lt hv.blk)).trans hv.blk
 have hone : ∀ d ∈ [c], d.v.oneCell' = true := fun d hd => by rw [List.mem_singleton.1 hd]; exact hc.is.one
 obtain ⟨v2, w2, hr, own2, gr2, at2⟩ := run_append_coms_at (P := Tryz.prog) (w := V) 76 ty 112 0 Tryz.underlying76 Tryz.info112 v rs qV.row _ [c] ownV.row hone (by have := hv.log.len_le; simp; omega) (Nat.zero_le _)
 have kp : KeepT 112 V w2 := KeepT.of_row qV.row gr2
 have q2 := qV.grow own2 kp ((hc.below belV).rebase (Nat.zero_le _)) hg
 have hpn : ¬ v.ownBlock = some p := fun e => qV.ne BV (by decide) (by decide) (.inl e)
 have B2 := (gr2.block p (blk_lt BV) (fun e => hpn e.symm)).trans BV
 obtain ⟨X, hX, bX, gX, fX⟩ := put_at3 B2 2 v2
 have qX : Rq 0 X (l ++ [c.c]) v2 (rs ++ [c]) := q2.agree fun g hg => gX.block g (q2.lt g hg) fun e => by
  simp at e
  exact q2.ne B2 (by decide) (by decide) (e ▸ hg)
 have oV : Out (fun g => F1 g ∨ g = p ∨ QB v rs g) w V := Out.of_below bwV
 have o2 : Out (fun g => F1 g ∨ g = p ∨ QB v rs g) w w2 := oV.trans (Out.of_grown (F := fun g => F1 g ∨ g = p ∨ QB v rs g) gr2 fun g hg => .inr (.inr (.inl hg))) fun g hg => .inl hg
 have oX : Out (fun g => F1 g ∨ g = p ∨ QB v rs g) w X := o2.trans (Out.of_grown (F := fun g => F1 g ∨ g = p ∨ QB v rs g) gX fun g hg => .inr (.inl (by simpa using hg.symm))) fun g hg => .inl hg
 have hk : Rk p q (fun g => g = p ∨ QB v rs g) w l bk := ⟨v, rs, hv, rfl⟩
 have KX : Pk q F1 X d := by
  have o : Out (fun g => g = p ∨ QB v rs g) w X := by
   refine ((Out.of_below (F := fun g => g = p ∨ QB v rs g) bwV).trans (Out.of_grown (F := fun g => g = p ∨ QB v rs g) gr2 fun g hg => .inr (.inl hg)) fun g hg => .inl hg).trans (Out.of_grown (F := fun g => g = p ∨ QB v rs g) gX fun g hg => .inl (by simpa using hg.symm)) fun g hg => .inl hg
  exact h1.out o fun g hg e => rk_pk hk h1 g e hg
 refine ⟨V, hV, blk_cell BV 2 rfl, v2, w2, hr, blk_cell B2 2 rfl, fX, ?_, ?_⟩
 ·obtain ⟨a1, k1, h1, _⟩ := own2.row.shape
  exact ⟨a1, _, k1, h1⟩
 ·rw [hX]
  refine ⟨_, ⟨F1, _, KX, ⟨v2, rs ++ [c], ⟨bX, qX⟩, rfl⟩, rfl⟩, oX, ?_⟩
  rintro g (e | e | e | ⟨d, hd, e⟩)
  ·exact .inl (.inl e)
  ·exact .inl (.inr (.inl e))
  ·rcases at2 with h | h
   ·exact .inl (.inr (.inr (.inl (h ▸ e))))
   ·rw [h] at e
    simp at e
    exact .inr (by omega)
  ·rcases List.mem_append.1 hd with hd | hd
   ·exact .inl (.inr (.inr (.inr ⟨d, hd, e⟩)))
   ·rw [List.mem_singleton.1 hd] at e
    exact .inr (hc.block g e).1

set_option maxRecDepth 20000 in
set_option maxHeartbeats 4000000 in
theorem hflush_any (p q : Nat) (F : Nat → Prop) (w : World) (s : Rl.Rs) (c : Cw) (h : RW p q F w s) (hs : RBig s) (hi : IsO w c.v c.l) (hf : FitO c.l) (h64 : In64 c.e ∧ In64 c.n) (hlo : c.l.length * 40 ≤ 140737488351232) (hcF : 0 < c.l.length → ∀ b, c.v.ownBlock = some b → ¬ F b) :
  Calls Tryz.prog 77 #[.pointer (some ⟨p, 0, none⟩), cmv c.e c.n c.v] w fun E w' => E = .returned (.int .i64 (Rl.flu s c.c).1) ∧ RStep p q F w w' (Rl.flu s c.c).2 := by
 obtain ⟨ao, cap, hcv, _, _⟩ := hi.shape
 obtain ⟨w1, hw1, sz1, bel1, hB0⟩ := blk_step w #[.int .i64 c.e, .int .i64 c.n, c.v] 112
 have c0 : w1.cell? ⟨w.heap.size, 0, none⟩ = some (.int .i64 c.e) := blk_cell hB0 0 rfl
 have c1 : w1.cell? ⟨w.heap.size, 1, none⟩ = some (.int .i64 c.n) := blk_cell hB0 1 rfl
 have c2 : w1.cell? ⟨w.heap.size, 2, none⟩ = some c.v := blk_cell hB0 2 rfl
 have hW1 := h.below bel1
 have HR := hide (hrefuses_any p q F w1 s hW1)
 have hb := hs.big
 have HLT := hide h.lt
 have HCF := hide hcF
 clear hcF
 unfold cmv
 rw [hcv] at hw1 c2 ⊢
 cases ha : Rl.ask s with
 | true =>
  have e1 : Rl.flu s c.c = (6, Rl.brk s) := by unfold Rl.flu; rw [ha]; rfl
  rw [e1]
  have B1 := hide bel1
  clear h hs hi hf h64 hlo hW1 hB0 bel1 e1
  go_enter Tryz.func77, Tryz.ntmps77
  go_wp2_with fail
  refine HR.out.mono ?_
  rintro E w2 (⟨_, rfl, J⟩ | ⟨h0, _⟩)
  ·have J := hide (RStep.pre B1.out J)
   clear HR
   go_wp2
   go_ret
   exact ⟨rfl, J.out⟩
  ·rw [ha] at h0
   cases h0
 | false =>
  have HFR := hide (hframed_any c.e c.n c.v c.l w1 (hi.below bel1) hf (by omega))
  unfold cmv at HFR
  rw [hcv] at HFR
  obtain ⟨ch, hch⟩ : ∃ x, Rn.chk c.e c.n c.l = x := ⟨_, rfl⟩
  rw [hch] at HFR
  have KC := hide hch
  have HCV := hide hcv
  have IOX := hide hi
  have WA := hide hW1
  have FO := hide (show FitO c.l ∧ (In64 c.e ∧ In64 c.n) ∧ c.l.length * 40 ≤ 140737488351232 from ⟨hf, h64, hlo⟩)
  have HB := hide hB0
  have B1 := hide bel1
  have HS := hide hs
  have HASK := hide ha
  clear h hs hi hf h64 hlo hW1 hch hcv hb hB0 bel1 ha
  go_enter Tryz.func77, Tryz.ntmps77
  go_wp2_with fail
  refine HR.out.mono ?_
  rintro E w2 (⟨h0, _⟩ | ⟨_, rfl, rfl⟩)
  ·rw [HASK.out] at h0
   cases h0
  clear HR
  go_wp2_with fail
  refine HFR.out.mono ?_
  rintro E w2 ⟨vb, rfl, own, bel2⟩
  have W2 := WA.out.below bel2
  have b02 := B1.out.trans (bel2.mono B1.out.size)
  have sz2 := bel2.size
  have hB2 := (bel2.block w.heap.size (by omega)).trans HB.out
  have d0 : w2.cell? ⟨w.heap.size, 0, none⟩ = some (.int .i64 c.e) := blk_cell hB2 0 rfl
  have d1 : w2.cell? ⟨w.heap.size, 1, none⟩ = some (.int .i64 c.n) := blk_cell hB2 1 rfl
  have d2 : w2.cell? ⟨w.heap.size, 2, none⟩ = some c.v := blk_cell hB2 2 rfl
  rw [HCV.out] at d2
  obtain ⟨ab, nb, cb, hvb⟩ : ∃ a n k, vb = .slice a n k := by
   obtain ⟨a1, k1, h1, _⟩ := own.is.shape
   exact ⟨a1, _, k1, h1⟩
  subst hvb
  have OB := hide own
  have HB2 := hide hB2
  have B02 := hide b02
  have HW2 := hide W2
  clear WA own bel2 HFR hB2 c0 c1 c2 W2 b02
  by_cases hc0 : ch = 0
  ·subst hc0
   have hfr : frdR c.e c.n c.l = Rl.fr c.c := by unfold frdR; rw [if_pos KC.out]; rfl
   rw [hfr] at OB
   have hfl : (Rl.fr c.c).length ≤ 52236 := Rl.fr_small KC.out
   obtain ⟨F1, G1, h1, h2, hF⟩ := HW2.out
   obtain ⟨v, rs, hv, hG⟩ := h2
   have hgl := Rl.good_len hv.log.good
   have p0 : w2.cell? ⟨p, 0, none⟩ = some (.pointer (some ⟨q, 0, none⟩)) := blk_cell hv.blk 0 rfl
   have p2 : w2.cell? ⟨p, 2, none⟩ = some v := blk_cell hv.blk 2 rfl
   have hpw : p < w2.heap.size := blk_lt hv.blk
   obtain ⟨la, ln, lk, hlv⟩ : ∃ a n k, v = .slice a n k := by
    obtain ⟨a1, k1, h1, _⟩ := hv.log.row.row.shape
    exact ⟨a1, _, k1, h1⟩
   subst hlv
   obtain ⟨ans, hans⟩ : ∃ x, decide (c.e - 1 = Cm.lastN 0 s.l) = x := ⟨_, rfl⟩
   have TK : Hid (∀ W, Below w2.heap.size w2 W → Calls Tryz.prog 68 #[.slice la ln lk, .agg #[.int .i64 c.e, .int .i64 c.n, .slice ao c.l.length cap]] W fun E w' => E = .returned (.bool ans) ∧ Below w2.heap.size w2 w') := hide fun W hbW => by
    have := hfollows_any (.slice la ln lk) rs c.e c.n (.slice ao c.l.length cap) W (hv.log.row.row.below hbW) hv.log.len_le ⟨_, _, _, rfl⟩ (by rw [hv.log.is]; exact hgl.2)
    unfold cmv at this
    rw [hv.log.is, hans] at this
    refine this.mono ?_
    rintro E w' ⟨rfl, hb'⟩
    exact ⟨rfl, hbW.trans (hb'.mono hbW.size)⟩
   have HA := hide hans
   have HV := hide hv
   have H1 := hide h1
   have HFF := hide hF
   have HGG := hide hG
   clear hans hv h1 hF hG
   go_wp2_with fail
   go_region_held3 (fun w' => w'.cell? ⟨w.heap.size, 0, none⟩ = some (.int .i64 c.e) ∧ w'.cell? ⟨w.heap.size, 1, none⟩ = some (.int .i64 c.n) ∧ w'.cell? ⟨w.heap.size, 2, none⟩ = some (.slice ao c.l.length cap) ∧ w'.cell? ⟨p, 0, none⟩ = some (.pointer (some ⟨q, 0, none⟩)) ∧ w'.cell? ⟨p, 2, none⟩ = some (.slice la ln lk)) (first | exact ⟨d0, d1, d2, p0, p2⟩ | exact ⟨e0, e1, e2, g0, g2⟩ | go_keep)
    (first
    | (go_at_call 68; refine (TK.out _ ((Below.refl _ _).drew)).mono ?_; rintro E w3 ⟨rfl, bel3⟩; have e0 := (bel3.cell (p := ⟨w.heap.size, 0, none⟩) (show w.heap.size < w2.heap.size by omega)).trans d0; have e1 := (bel3.cell (p := ⟨w.heap.size, 1, none⟩) (show w.heap.size < w2.heap.size by omega)).trans d1; have e2 := (bel3.cell (p := ⟨w.heap.size, 2, none⟩) (show w.heap.size < w2.heap.size by omega)).trans d2; have g0 := (bel3.cell (p := ⟨p, 0, none⟩) hpw).trans p0; have g2 := (bel3.cell (p := ⟨p, 2, none⟩) hpw).trans p2))
   have b03 := B02.out.trans (bel3.mono B02.out.size)
   have sz3 := bel3.size
   have HV3 : Hid (RkV p q w3 s.l s.bk (.slice la ln lk) rs) := hide ⟨(bel3.block p hpw).trans HV.out.blk, HV.out.log.below bel3⟩
   have K3 := hide (H1.out.below bel3)
   have O3 := hide (OB.out.below bel3)
   have HB3 := hide ((bel3.block w.heap.size (by omega)).trans HB2.out)
   have W3 := hide (HW2.out.below bel3)
   have B3 := hide b03
   clear HV H1 OB HB2 TK d0 d1 d2 p0 p2 b03 bel3 HW2 B02
   cases ans with
   | false =>
    have e4 : Rl.flu s c.c = (15, s) := by
     unfold Rl.flu
     rw [HASK.out, if_neg (by decide), if_neg (by intro hx; exact hx KC.out), if_pos (show c.c.e - 1 ≠ Cm.lastN 0 s.l from of_decide_eq_false HA.out)]
    have E4 := hide e4
    clear e4 HV3 K3 O3
    go_wp2
    go_ret
    exact ⟨by rw [E4.out]; rfl, by rw [E4.out]; exact ⟨F, W3.out, Out.of_below B3.out, fun g hg => .inl hg⟩⟩
   | true =>
    have hord := of_decide_eq_true HA.out
    have hgood : Rl.Good 0 (s.l ++ [c.c]) := (Rl.good_snoc HV3.out.log.good).2 ⟨KC.out, hord⟩
    have WR := hide (hextend_any q F1 w3 s.d (.slice ab nb cb) (Rl.fr c.c) K3.out HS.out (O3.out.rebase (Nat.zero_le _)) (fun b hb hf => by
     have h1 := (O3.out.block b hb).1
     have h2 := HLT.out b (by rw [HFF.out]; exact .inl hf)
     omega) hfl)
    have e01 := Rl.ext_e s.d (Rl.fr c.c)
    have e4 : Rl.flu s c.c = if (Rl.ext s.d (Rl.fr c.c)).1 ≠ 0 then ((Rl.ext s.d (Rl.fr c.c)).1, ⟨(Rl.ext s.d (Rl.fr c.c)).2, s.l, true⟩) else (0, ⟨(Rl.ext s.d (Rl.fr c.c)).2, s.l ++ [c.c], false⟩) := by
     unfold Rl.flu
     rw [HASK.out, if_neg (by decide), if_neg (by intro hx; exact hx KC.out), if_neg (by intro hx; exact hx hord)]
    have hbk : s.bk = false := by
     have := HASK.out
     unfold Rl.ask at this
     cases hb : s.bk with
     | false => rfl
     | true => rw [hb] at this; cases this
    generalize hwr : Rl.ext s.d (Rl.fr c.c) = y at *
    obtain ⟨x, d'⟩ := y
    simp only at e01 e4 WR
    have E4 := hide e4
    have GD := hide hgood
    have HBK := hide hbk
    have SZ3 : w1.heap.size ≤ w3.heap.size := by omega
    clear e4 hgood hwr hfr hbk hord
    go_wp2_with fail
    refine WR.out.mono ?_
    rintro E w4 ⟨rfl, PS⟩
    obtain ⟨F2, k1, k2, k3, k4⟩ := RW.disk (s := ⟨s.d, s.l, s.bk⟩) K3.out ⟨_, rs, HV3.out, rfl⟩ PS
    have T4 := hide (show Out F w3 w4 ∧ ∀ g, (F2 g ∨ (g = p ∨ QB (.slice la ln lk) rs g)) → F g ∨ w3.heap.size ≤ g from by
     refine ⟨k3.mono fun g hg => .inl (by rw [HFF.out]; exact .inl hg), ?_⟩
     rintro g (hg | hg)
     ·rcases k4 g hg with e | e
      ·exact .inl (by rw [HFF.out]; exact .inl e)
      ·exact .inr e
     ·exact .inl (by rw [HFF.out, HGG.out]; exact .inr hg))
    have RW4 : Hid (RW p q (fun g => F2 g ∨ (g = p ∨ QB (.slice la ln lk) rs g)) w4 ⟨d', s.l, s.bk⟩) := hide ⟨F2, _, k1, k2, rfl⟩
    have V4 : Hid (RkV p q w4 s.l s.bk (.slice la ln lk) rs ∧ Pk q F2 w4 d') := hide ⟨⟨(k3.block p (blk_lt HV3.out.blk) (fun e => rk_pk ⟨_, rs, HV3.out, rfl⟩ K3.out p (.inl rfl) e)).trans HV3.out.blk, HV3.out.log.out k3 (rq_pk HV3.out.log K3.out)⟩, k1⟩
    clear PS k1 k2 k3 k4 WR K3 HV3 O3
    rcases e01 with rfl | rfl
    ·obtain ⟨o4, s4⟩ := T4.out
     have sz4 := o4.size
     have hnF : ¬ F w.heap.size := fun hf => by have := HLT.out _ hf; omega
     have hB4 := (o4.block w.heap.size (by omega) hnF).trans HB3.out
     have x0 : w4.cell? ⟨w.heap.size, 0, none⟩ = some (.int .i64 c.e) := blk_cell hB4 0 rfl
     have x1 : w4.cell? ⟨w.heap.size, 1, none⟩ = some (.int .i64 c.n) := blk_cell hB4 1 rfl
     have x2 : w4.cell? ⟨w.heap.size, 2, none⟩ = some c.v := blk_cell hB4 2 rfl
     rw [HCV.out] at x2
     have i4 : IsO w4 c.v c.l := (IOX.out.below B3.out).out o4 HCF.out
     have hp4 : p < w4.heap.size := blk_lt V4.out.1.blk
     have y2 : w4.cell? ⟨p, 2, none⟩ = some (.slice la ln lk) := blk_cell V4.out.1.blk 2 rfl
     have X1 : Hid (Calls Tryz.prog 124 #[.agg #[.int .i64 c.e, .int .i64 c.n, .slice ao c.l.length cap]] w4.drew fun E w6 => ∃ v', E = .returned v' ∧ ∃ (vo : Value) (V : World), v' = .agg #[.int .i64 c.e, .int .i64 c.n, vo] ∧ (∃ a n k, vo = .slice a n k) ∧ w6.cell? ⟨p, 2, none⟩ = some (.slice la ln lk) ∧ (w6.cell? ⟨w.heap.size, 0, none⟩ = some (.int .i64 c.e) ∧ w6.cell? ⟨w.heap.size, 1, none⟩ = some (.int .i64 c.n) ∧ w6.cell? ⟨w.heap.size, 2, none⟩ = some (.slice ao c.l.length cap)) ∧ w6.alloc (.cells #[.int .i64 c.e, .int .i64 c.n, vo] 112) = V ∧ (V.cell? ⟨p, 2, none⟩ = some (.slice la ln lk) ∧ (V.cell? ⟨w.heap.size, 0, none⟩ = some (.int .i64 c.e) ∧ V.cell? ⟨w.heap.size, 1, none⟩ = some (.int .i64 c.n) ∧ V.cell? ⟨w.heap.size, 2, none⟩ = some (.slice ao c.l.length cap))) ∧
       Hid (∀ ty, ∃ v2 w2, (Builtin.append_ #[76, 76] ty #[.slice la ln lk, .slice (some ⟨w6.heap.size, 0, none⟩) 1 1]).run Tryz.prog V = .ok v2 w2 ∧ (RStep p q F w3 (w2.setCell ⟨p, 2, none⟩ v2) ⟨d', s.l ++ [c.c], s.bk⟩ ∧ w2.cell? ⟨p, 2, none⟩ = some (.slice la ln lk) ∧ w2.frozen? ⟨p, 2, none⟩ = false ∧ ∃ a n k, v2 = .slice a n k))) := hide (by
      have := hcopied_any c.e c.n c.v c.l w4.drew (i4.drewN 1) FO.out.2.2
      unfold cmv at this
      rw [HCV.out] at this
      refine this.mono ?_
      rintro E w6 ⟨vo, rfl, own6, bel6⟩
      have b46 : Below w4.heap.size w4 w6 := (Below.refl w4.heap.size w4).drew.trans bel6
      obtain ⟨V, hV, V2, v2, w2, hr, q1, q2, q3, F', J1, J2, J3⟩ := rk_push (c := ⟨c.e, c.n, vo, c.l⟩) V4.out.2 V4.out.1 b46 own6 GD.out 76
      have belV : Below w6.heap.size w6 V := by rw [← hV]; exact (Below.refl _ _).alloc (Nat.le_refl _) _
      have b4V := b46.trans (belV.mono b46.size)
      obtain ⟨a1, k1, h1, _⟩ := own6.is.shape
      refine ⟨_, rfl, vo, V, rfl, ⟨a1, _, k1, h1⟩, (b46.cell (p := ⟨p, 2, none⟩) hp4).trans y2, ⟨(b46.cell (p := ⟨w.heap.size, 0, none⟩) (show w.heap.size < w4.heap.size by omega)).trans x0, (b46.cell (p := ⟨w.heap.size, 1, none⟩) (show w.heap.size < w4.heap.size by omega)).trans x1, (b46.cell (p := ⟨w.heap.size, 2, none⟩) (show w.heap.size < w4.heap.size by omega)).trans x2⟩, hV, ⟨V2, (b4V.cell (p := ⟨w.heap.size, 0, none⟩) (show w.heap.size < w4.heap.size by omega)).trans x0, (b4V.cell (p := ⟨w.heap.size, 1, none⟩) (show w.heap.size < w4.heap.size by omega)).trans x1, (b4V.cell (p := ⟨w.heap.size, 2, none⟩) (show w.heap.size < w4.heap.size by omega)).trans x2⟩, hide fun ty => ?_⟩
      obtain ⟨V', hV', V2', v2', w2', hr', q1', q2', q3', F'', J1', J2', J3'⟩ := rk_push (c := ⟨c.e, c.n, vo, c.l⟩) V4.out.2 V4.out.1 b46 own6 GD.out ty
      have eV : V' = V := hV'.symm.trans hV
      subst eV
      refine ⟨v2', w2', hr', ⟨F'', J1', o4.trans J2' s4, fun g hg => ?_⟩, q1', q2', q3'⟩
      rcases J3' g hg with e | e
      ·exact s4 g e
      ·exact .inr (by omega))
     clear hB4 i4 V4 RW4 T4
     go_wp2_with fail
     go_region_law (first
      | (have ow := XX; refine step_append_at rfl (.tmp 45) (.tmp 48) 76 rfl (.slice la ln lk) (.slice (some ⟨w6.heap.size, 0, none⟩) 1 1) (by first | (simp [Act.eval]; done) | (simp [Act.eval, Act.put]; done)) (by first | (simp [Act.eval]; done) | (simp [Act.eval, Act.put]; done)) XX.out ?_; rintro v8 w8 ⟨J, d8, g8, a8, n8, k8, rfl⟩; have J := hide J)
      | (refine call_at rfl 124 #[.tmp 46] #[112] rfl Tryz.enters124 #[.agg #[.int .i64 c.e, .int .i64 c.n, .slice ao c.l.length cap]] (by first | (simp [Act.eval]; done) | (simp [Act.eval, Act.put]; done)) X1.out ?_; rintro v6 w6 ⟨vo, V, rfl, ⟨oa, on, ok, rfl⟩, z2, ⟨b0, b1, b2⟩, hV, ⟨z3, b3, b4, b5⟩, XX⟩))
     all_goals
      have JJ := hide (RStep.pre B3.out J.out)
      clear J
      go_wp2
      go_ret
      refine ⟨by rw [E4.out]; rfl, ?_⟩
      rw [E4.out]
      have := JJ.out
      rw [HBK.out] at this
      exact this
    ·have HFL := hide (RW4.out.flag true)
     have p1 := blk_cell V4.out.1.blk 1 rfl
     have f1 := blk_froz V4.out.1.blk 1
     simp only [List.getElem_toArray, List.getElem_cons_zero, List.getElem_cons_succ] at p1
     have JJ := hide (RStep.pre B3.out (RStep.trans T4.out.1 T4.out.2 HFL.out))
     clear HFL RW4 T4 V4
     go_wp2
     go_ret
     exact ⟨by rw [E4.out]; rfl, by rw [E4.out]; exact JJ.out⟩
  ·have hne : (ch != 0) = true := by simp [hc0]
   have e4 : Rl.flu s c.c = (ch, s) := by
    unfold Rl.flu
    rw [HASK.out, if_neg (by decide), if_pos (by show Rn.chk c.e c.n c.l ≠ 0; rw [KC.out]; exact hc0)]
    show (Rn.chk c.e c.n c.l, s) = (ch, s)
    rw [KC.out]
   have E4 := hide e4
   clear e4
   go_wp2
   go_ret
   exact ⟨by rw [E4.out]; rfl, by rw [E4.out]; exact ⟨F, HW2.out, Out.of_below B02.out, fun g hg => .inl hg⟩⟩

end Go.Proofs.YtmmfakpphjjjfaaGreat
