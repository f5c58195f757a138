/- Texts of one layer, one behind the other. -/
import Derived.Test.YtmmfakpphjjjfaaGreatG31
import Derived.Test.YtmmfakpphjjjfaaGreatRg
import Derived.Test.YtmmfakpphjjjfaaGreatG17
/- What the iterators of All and Live yield. -/
namespace Go.Proofs.YtmmfakpphjjjfaaGreat
open Go.RowKit Go.Maps Go.Shelf
open Bm (Ov)
set_option linter.unusedVariables false
attribute [local go_sem] Oper.semAt_some

def pt (t : List Ov) (x : Nx t.length) : Ov := t[x.1]'x.2
def pts (t : List Ov) (xs : List (Nx t.length)) : List Ov := xs.map (pt t)

theorem pts_len (t : List Ov) (xs : List (Nx t.length)) : (pts t xs).length = xs.length := by simp [pts]
theorem pts_snoc (t : List Ov) (xs : List (Nx t.length)) (x : Nx t.length) : pts t (xs ++ [x]) = pts t xs ++ [pt t x] := by simp [pts]

theorem pts_up (t : List Ov) : ∀ k, k ≤ t.length → pts t (upn t.length k) = t.take k
 | 0, _ => by simp [upn, pts]
 | k + 1, h => by
  rw [upn_next _ k (by omega), pts_snoc, pts_up t k (by omega), List.take_succ_eq_append_getElem (by omega)]
  rfl

theorem pts_all (t : List Ov) : pts t (upn t.length t.length) = t := by rw [pts_up t _ (Nat.le_refl _), List.take_length]

theorem kn_alloc {S : Nat → Prop} {w W : World} (hS : ∀ g, S g → g < w.heap.size) (h : Kn S w W) (o : Obj) : Kn S w (W.alloc o) := fun g hg => by
 have h1 := h g hg
 have h2 : g < W.heap.size := by
  have h3 := hS g hg
  rw [Array.getElem?_eq_getElem h3] at h1
  exact (Array.getElem?_eq_some_iff.1 h1).1
 exact (Below.heap_alloc W o g h2).trans h1

set_option maxRecDepth 100000 in
set_option maxHeartbeats 4000000 in
theorem vals_one (n : Nat) (hn : 1 ≤ n) (l B : Nat) (t : List Ov) (sv : Value) (S : Nat → Prop) (hSB : S B) (hSv : ∀ b, sv.ownBlock = some b → S b) (hLm : t.length ≤ 1000000) (J Jx : List (Nx t.length) → World → Prop) (W : World) (hSW : ∀ g, S g → g < W.heap.size) (hJ : AbidesFrom W.heap.size J)
  (hY : ∀ pre x W1, J pre W1 → pre.length < t.length → YieldAt Fence.wide (n - 1) Tryz.prog l #[ovv (pt t x)] W1 fun e W' => (e = .returned (.bool true) ∧ J (pre ++ [x]) W' ∧ Kn S W1 W') ∨ (e = .returned (.bool false) ∧ Jx (pre ++ [x]) W'))
  (hB : W.cell? ⟨B, 0, none⟩ = some sv) (his : IsO W sv t) (h0 : J [] W) :
  CallsIn Fence.wide n Tryz.prog 158 #[.func (.yield l) #[] #[], .pointer (some ⟨B, 0, none⟩)] W fun e W' => (∃ v, e = .returned v) ∧ ((∃ xs, xs = upn t.length t.length ∧ J xs W') ∨ (∃ pre, (∃ k, k ≤ t.length ∧ pre = upn t.length k) ∧ Jx pre W')) := by
 have hro : Fence.wide.round = none := rfl
 obtain ⟨ao, cap, hsv, hcap, hcm⟩ := his.shape
 have HFULL := hide fun (h0 : 0 < t.length) => his.full h0
 subst hsv
 have HSW := hide hSW
 have HJ0 := hide hJ
 have HY := hide hY
 clear his hSW hJ hY
 refine callsIn_of_wp Tryz.func158 rfl trivial ?_ hro
 simp only [Tryz.ntmps158, List.size_toArray, List.length_cons, List.length_nil, Nat.reduceAdd, Nat.reduceSub, Array.replicate_succ, Array.replicate_zero, List.push_toArray, List.append_toArray, List.nil_append, List.cons_append]
 gi_wp2
 gi_loopw [7] (fun iv wr => ∃ k : Nat, k ≤ t.length ∧ iv = .int .i64 k ∧ Hid (J (upn t.length k) wr) ∧ Kn S W wr) (fun iv _ => t.length - (intOf iv).toNat)
 case atStart => exact ⟨0, Nat.zero_le _, rfl, h0, fun _ _ => rfl⟩
 case round =>
  obtain ⟨k, hk, rfl, HJ, hK⟩ := hrel
  by_cases hlt : k < t.length
  ·obtain ⟨b, off, cq, hvx, _, _, hb, hcell⟩ := HFULL.out (by omega)
   simp only [Value.slice.injEq, true_and] at hvx
   obtain ⟨rfl, rfl⟩ := hvx
   obtain ⟨o, ho⟩ : ∃ o, pt t ⟨k, hlt⟩ = o := ⟨_, rfl⟩
   have ho' : t[k]? = some o := by rw [List.getElem?_eq_getElem hlt, ← ho]; rfl
   obtain ⟨c0, c1, c2⟩ := hcell k o ho'
   have hkb := hK b (hSv b rfl)
   have d0 := (cell_of_blk hkb (off + k * 3)).trans c0
   have d1 := (cell_of_blk hkb (off + k * 3 + 1)).trans c1
   have d2 := (cell_of_blk hkb (off + k * 3 + 2)).trans c2
   obtain ⟨W1, hW1, sz1, bW1, B1⟩ := blk_step wr #[.bool o.p, .string o.k, .string o.v] 65
   have e0 : W1.cell? ⟨wr.heap.size, 0, none⟩ = some (.bool o.p) := blk_cell B1 0 rfl
   have e1 : W1.cell? ⟨wr.heap.size, 1, none⟩ = some (.string o.k) := blk_cell B1 1 rfl
   have e2 : W1.cell? ⟨wr.heap.size, 2, none⟩ = some (.string o.v) := blk_cell B1 2 rfl
   have HJ1 : J (upn t.length k) W1 := by
    rw [← hW1]
    exact HJ0.out _ _ _ none HJ.out (World.grownBy_alloc _ _ _) (fun r e => by cases e)
   have hK1 : Kn S W W1 := by rw [← hW1]; exact kn_alloc HSW.out hK _
   obtain ⟨fn, tmps, assign, body, hy, hR⟩ := HY.out _ ⟨k, hlt⟩ W1 HJ1 (by rw [upn_len _ k hk]; omega)
   rw [ho] at hy
   unfold ovv at hy
   have hlt' : (k : Int) < t.length := by omega
   have hk0 : (0 : Int) ≤ (k : Int) := by omega
   have HR := hide hR
   have HK := hide hK1
   clear hR hcell hSv B1 bW1 HJ1 hK hK1 c0 c1 c2 hkb ho ho'
   gi_wp2
   refine HR.out.mono ?_
   rintro e W3 (⟨rfl, hJ3, hk3⟩ | ⟨rfl, hJx3⟩)
   ·have hJ4 : Hid (J (upn t.length (k + 1)) W3) := hide (by rw [upn_next _ k hlt]; exact hJ3)
    have hK4 := HK.out.trans hk3
    clear hJ3
    gi_wp2
    go_roundw
    case rel => exact ⟨k + 1, by omega, by go_num, hJ4, hK4⟩
    case measure => simp [intOf]; omega
   ·have hJ4 : Hid (Jx (upn t.length (k + 1)) W3) := hide (by rw [upn_next _ k hlt]; exact hJx3)
    clear hJx3
    gi_wp2
    refine bodyPost_ret (results_none rfl _ _ _) rfl ?_
    exact ⟨⟨_, rfl⟩, .inr ⟨_, ⟨k + 1, by omega, rfl⟩, hJ4.out⟩⟩
  ·have hlt' : ¬ (k : Int) < t.length := by omega
   obtain rfl : k = t.length := by omega
   gi_wp2
   go_end0
   exact ⟨⟨_, rfl⟩, .inl HJ.out⟩

def SeqTB (B : Nat) (w : World) (g : Nat) : Prop := g = B ∨ ∃ u, w.cell? ⟨B, 0, none⟩ = some u ∧ u.ownBlock = some g

theorem SeqT.lt {B base : Nat} {w : World} {t : List Ov} (h : SeqT B base w t) : ∀ g, SeqTB B w g → base ≤ g ∧ g < w.heap.size := by
 obtain ⟨hb, v, h1, h2⟩ := h
 rintro g (rfl | ⟨u, hu, hg⟩)
 ·exact ⟨hb, blk_lt h1⟩
 ·have c0 : w.cell? ⟨B, 0, none⟩ = some v := blk_cell h1 0 rfl
  rw [c0] at hu
  cases hu
  exact h2.block g hg

theorem vals_seq (n : Nat) (hn : 1 ≤ n) (B base : Nat) (t : List Ov) (w : World) (h : SeqT B base w t) (hLm : t.length ≤ 1000000) :
  SeqStopsK Fence.wide n Tryz.prog 158 #[.pointer (some ⟨B, 0, none⟩)] (fun x : Nx t.length => #[ovv (pt t x)]) (Kn (SeqTB B w)) (fun xs => xs = upn t.length t.length) (fun pre => ∃ k, k ≤ t.length ∧ pre = upn t.length k) t.length w := fun l J Jx W hW hJ hJx hY h0 => by
 have hlt := h.lt
 obtain ⟨hb, v, h1, h2⟩ := h
 have c0 := blk_cell h1 0 rfl
 refine vals_one n hn l B t v (SeqTB B w) (.inl rfl) (fun b hb => .inr ⟨v, c0, hb⟩) hLm J Jx W (fun g hg => Nat.lt_of_lt_of_le (hlt g hg).2 hW.size) hJ hY ((hW.cell (p := ⟨B, 0, none⟩) (blk_lt h1)).trans c0) (h2.is.below hW) h0

def lvn (t : List Ov) (k : Nat) : Nat := (Tm.live (t.take k)).length

theorem live_app (a b : List Ov) : Tm.live (a ++ b) = Tm.live a ++ Tm.live b := by simp [Tm.live]

theorem lvn_all (t : List Ov) (k : Nat) (h : t.length ≤ k) : lvn t k = (Tm.live t).length := by unfold lvn; rw [List.take_of_length_le h]

theorem lvn_no {t : List Ov} {k : Nat} {o : Ov} (h : t[k]? = some o) (hp : o.p = false) : lvn t (k + 1) = lvn t k := by
 obtain ⟨h1, rfl⟩ := List.getElem?_eq_some_iff.1 h
 unfold lvn
 rw [List.take_succ_eq_append_getElem h1, live_app]
 simp [Tm.live, hp]

theorem lvn_yes {t : List Ov} {k : Nat} {o : Ov} (h : t[k]? = some o) (hp : o.p = true) : lvn t (k + 1) = lvn t k + 1 ∧ (Tm.live t)[lvn t k]? = some o := by
 obtain ⟨h1, rfl⟩ := List.getElem?_eq_some_iff.1 h
 have e1 : Tm.live [t[k]] = [t[k]] := by simp [Tm.live, hp]
 constructor
 ·unfold lvn
  rw [List.take_succ_eq_append_getElem h1, live_app, List.length_append, e1]
  rfl
 ·have e2 : Tm.live t = Tm.live (t.take k) ++ ([t[k]] ++ Tm.live (t.drop (k + 1))) := by
   rw [← e1, ← live_app, ← live_app]
   congr 1
   rw [List.singleton_append, ← List.drop_eq_getElem_cons h1, List.take_append_drop]
  unfold lvn
  rw [e2, List.getElem?_append_right (Nat.le_refl _), Nat.sub_self]
  rfl

theorem live_p (t : List Ov) (x : Nx (Tm.live t).length) : (pt (Tm.live t) x).p = true := by
 have : pt (Tm.live t) x ∈ Tm.live t := List.getElem_mem _
 exact (List.mem_filter.1 this).2

set_option maxRecDepth 100000 in
set_option maxHeartbeats 4000000 in
theorem lvs_one (n : Nat) (hn : 1 ≤ n) (l B : Nat) (t : List Ov) (L : Nat) (f : Nx L → Ov) (hf : ∀ (i : Nat) (h : i < L), (Tm.live t)[i]? = some (f ⟨i, h⟩)) (hL : (Tm.live t).length = L) (sv : Value) (S : Nat → Prop) (hSB : S B) (hSv : ∀ b, sv.ownBlock = some b → S b) (hLm : t.length ≤ 1000000) (J Jx : List (Nx L) → World → Prop) (W : World) (hSW : ∀ g, S g → g < W.heap.size) (hJ : AbidesFrom W.heap.size J)
  (hY : ∀ pre x W1, J pre W1 → pre.length < L → YieldAt Fence.wide (n - 1) Tryz.prog l #[.string (f x).k, .string (f x).v] W1 fun e W' => (e = .returned (.bool true) ∧ J (pre ++ [x]) W' ∧ Kn S W1 W') ∨ (e = .returned (.bool false) ∧ Jx (pre ++ [x]) W'))
  (hB : W.cell? ⟨B, 0, none⟩ = some sv) (his : IsO W sv t) (h0 : J [] W) :
  CallsIn Fence.wide n Tryz.prog 143 #[.func (.yield l) #[] #[], .pointer (some ⟨B, 0, none⟩)] W fun e W' => (∃ v, e = .returned v) ∧ ((∃ xs, xs = upn L L ∧ J xs W') ∨ (∃ pre, (∃ k, k ≤ L ∧ pre = upn L k) ∧ Jx pre W')) := by
 have hro : Fence.wide.round = none := rfl
 obtain ⟨ao, cap, hsv, hcap, hcm⟩ := his.shape
 have HFULL := hide fun (h0 : 0 < t.length) => his.full h0
 subst hsv
 have HSW := hide hSW
 have HJ0 := hide hJ
 have HY := hide hY
 have HFF := hide hf
 have HL := hide hL
 have hle : Hid (∀ k, lvn t k ≤ L) := hide fun k => by
  unfold lvn
  rw [← hL]
  exact (List.Sublist.filter Bm.Ov.p (List.take_sublist k t)).length_le
 clear his hSW hJ hY hf hL
 refine callsIn_of_wp Tryz.func143 rfl trivial ?_ hro
 simp only [Tryz.ntmps143, List.size_toArray, List.length_cons, List.length_nil, Nat.reduceAdd, Nat.reduceSub, Array.replicate_succ, Array.replicate_zero, List.push_toArray, List.append_toArray, List.nil_append, List.cons_append]
 gi_wp2
 gi_loopw [7] (fun iv wr => ∃ k : Nat, k ≤ t.length ∧ iv = .int .i64 k ∧ Hid (J (upn L (lvn t k)) wr) ∧ Kn S W wr) (fun iv _ => t.length - (intOf iv).toNat)
 case atStart => exact ⟨0, Nat.zero_le _, rfl, h0, fun _ _ => rfl⟩
 case round =>
  obtain ⟨k, hk, rfl, HJ, hK⟩ := hrel
  by_cases hlt : k < t.length
  ·obtain ⟨b, off, cq, hvx, _, _, hb, hcell⟩ := HFULL.out (by omega)
   simp only [Value.slice.injEq, true_and] at hvx
   obtain ⟨rfl, rfl⟩ := hvx
   obtain ⟨o, ho⟩ : ∃ o, t[k]? = some o := ⟨t[k], List.getElem?_eq_getElem hlt⟩
   obtain ⟨c0, c1, c2⟩ := hcell k o ho
   have hkb := hK b (hSv b rfl)
   have d0 := (cell_of_blk hkb (off + k * 3)).trans c0
   have d1 := (cell_of_blk hkb (off + k * 3 + 1)).trans c1
   have d2 := (cell_of_blk hkb (off + k * 3 + 2)).trans c2
   obtain ⟨W1, hW1, sz1, bW1, B1⟩ := blk_step wr #[.bool o.p, .string o.k, .string o.v] 65
   have e0 : W1.cell? ⟨wr.heap.size, 0, none⟩ = some (.bool o.p) := blk_cell B1 0 rfl
   have e1 : W1.cell? ⟨wr.heap.size, 1, none⟩ = some (.string o.k) := blk_cell B1 1 rfl
   have e2 : W1.cell? ⟨wr.heap.size, 2, none⟩ = some (.string o.v) := blk_cell B1 2 rfl
   have HJ1 : J (upn L (lvn t k)) W1 := by
    rw [← hW1]
    exact HJ0.out _ _ _ none HJ.out (World.grownBy_alloc _ _ _) (fun r e => by cases e)
   have hK1 : Kn S W W1 := by rw [← hW1]; exact kn_alloc HSW.out hK _
   have hlt' : (k : Int) < t.length := by omega
   have hk0 : (0 : Int) ≤ (k : Int) := by omega
   have HK := hide hK1
   cases hp : o.p with
   | false =>
    have HJ2 : Hid (J (upn L (lvn t (k + 1))) W1) := hide (by rw [lvn_no ho hp]; exact HJ1)
    rw [hp] at d0 e0 hW1
    clear hcell hSv B1 bW1 HJ1 hK hK1 c0 c1 c2 hkb ho hp
    gi_wp2
    refine ⟨(fun _ e => by cases e), ?_⟩
    gi_wp2
    go_roundw
    case rel => exact ⟨k + 1, by omega, by go_num, HJ2, HK.out⟩
    case measure => simp [intOf]; omega
   | true =>
    obtain ⟨y1, y2⟩ := lvn_yes ho hp
    have hj : lvn t k < L := by
     have := hle.out (k + 1)
     omega
    have hy3 : f ⟨lvn t k, hj⟩ = o := by
     have := HFF.out _ hj
     rw [y2] at this
     exact (Option.some.inj this).symm
    obtain ⟨fn, tmps, assign, body, hy, hR⟩ := HY.out _ ⟨lvn t k, hj⟩ W1 HJ1 (by rw [upn_len _ _ (Nat.le_of_lt hj)]; exact hj)
    rw [hy3] at hy
    rw [hp] at d0 e0 hW1
    have HR := hide hR
    have HY1 := hide y1
    have HJL := hide hj
    clear hcell hSv B1 bW1 HJ1 hK hK1 c0 c1 c2 hkb ho hp hR hy3 y1 y2
    gi_wp2
    refine HR.out.mono ?_
    rintro e W3 (⟨rfl, hJ3, hk3⟩ | ⟨rfl, hJx3⟩)
    ·have hJ4 : Hid (J (upn L (lvn t (k + 1))) W3) := hide (by rw [HY1.out, upn_next _ _ HJL.out]; exact hJ3)
     have hK4 := HK.out.trans hk3
     clear hJ3
     gi_wp2
     go_roundw
     case rel => exact ⟨k + 1, by omega, by go_num, hJ4, hK4⟩
     case measure => simp [intOf]; omega
    ·have hJ4 : Hid (Jx (upn L (lvn t (k + 1))) W3) := hide (by rw [HY1.out, upn_next _ _ HJL.out]; exact hJx3)
     clear hJx3
     gi_wp2
     refine bodyPost_ret (results_none rfl _ _ _) rfl ?_
     exact ⟨⟨_, rfl⟩, .inr ⟨_, ⟨lvn t (k + 1), hle.out _, rfl⟩, hJ4.out⟩⟩
  ·have hlt' : ¬ (k : Int) < t.length := by omega
   obtain rfl : k = t.length := by omega
   have HJ2 : Hid (J (upn L L) wr) := hide (by
    have := HJ.out
    rw [lvn_all t _ (Nat.le_refl _), HL.out] at this
    exact this)
   clear HJ
   gi_wp2
   go_end0
   exact ⟨⟨_, rfl⟩, .inl HJ2.out⟩

end Go.Proofs.YtmmfakpphjjjfaaGreat

/- The statement's own: what a table goes over, as a list (all). -/
namespace Go.Proofs.YtmmfakpphjjjfaaGreat
open Go.RowKit Go.Maps Go.Shelf
open Bm (Ov)
set_option linter.unusedVariables false
attribute [local go_sem] Oper.semAt_some

theorem wpListIn_append_ops {F : Fence} {nf : Nat} {P : Program} {w : World} {ops : Array Oper} {rest : List Oper} {o : Oper} {a : Act} {Q : Exit → Act → World → Prop} (hgd : o.guard = none) (s x : Operand) (t : TypeId)
  (ho : o.op = .call { callee := .builtin .append, args := #[s, x], argTypes := #[t, t] })
  (e : TypeId) (base : Nat) (ht : P.underlying t = some (.slice e)) (hinfo : (P.info? e).map (fun i => (i.zero, i.size, i.bytes)) = some (some (.agg #[.bool false, .string ⟨#[]⟩, .string ⟨#[]⟩]), 3, 40))
  (v : Value) (l : List Ov) (hs : a.eval s = v) (hown : OwnO e base w v l) (ad : Addr) (m : List Ov) (c : Nat) (hx : a.eval x = .slice (some ad) m.length c) (hc : ∀ j u, (ocells m)[j]? = some u → w.cell? (ad.add j) = some u)
  (hlen : (l.length + m.length) * 40 ≤ 140737488355328) (hbase : base ≤ w.heap.size)
  (h : ∀ v' w', OwnO e base w' v' (l ++ m) → Below base w w' → w.grownBy w' v.ownBlock → wpListIn F nf P ops Q rest (a.put o.dst v') w') : wpListIn F nf P ops Q (o :: rest) a w := by
 obtain ⟨i, hi, hz, hsize, hb⟩ := info_parts hinfo
 have hn : l.length + m.length ≤ 140737488355328 := by omega
 refine wpListIn_append_own w hgd s x t ho base e i _ 3 40 ht hi hz hsize hb rfl (by decide) v l.length _ hs hown ad m.length c (ocells m) hx (ocells_len m) hc (ocells_cell m) (by unfold maxLen; omega) hlen hbase ?_
 intro v' w' ho' hg _
 refine h v' w' (by unfold OwnO; rw [ocells_app, List.length_append]; exact ho') ((Below.refl _ _).grown hg hbase fun k' hk => ?_) hg
 exact (World.ownsRow.lt hown k' hk).1

theorem OwnO.cel {e base : Nat} {w : World} {v : Value} {l : List Ov} (h : OwnO e base w v l) {g : Nat} (hg : v.ownBlock = some g) : ∃ cs fr, w.heap[g]? = some (.cells cs e fr) := by
 rcases h.2 with ⟨hv, _⟩ | ⟨g', cap, cur, hv, h1, hh, _⟩
 ·rw [hv] at hg; cases hg
 ·rw [hv] at hg
  cases hg
  exact ⟨_, _, hh⟩

def RI (ob : Nat) (W3 : World) (l : List Ov) (W : World) : Prop := ∃ v, W.heap[ob]? = some (.cells #[v] 48 (0, 0)) ∧ OwnO 65 W3.heap.size W v l ∧ Out (fun g => g = ob) W3 W

theorem RI.grown {ob : Nat} {W3 W W' : World} {l : List Ov} {row : Option Nat} (hob : ob < W3.heap.size) (h : RI ob W3 l W) (hg : W.grownBy W' row) (hr : ∀ r, row = some r → W3.heap.size ≤ r ∧ ∃ o : Obj, W.heap[r]? = some o ∧ o.isCells = false) : RI ob W3 l W' := by
 obtain ⟨v, h1, h2, h3⟩ := h
 refine ⟨v, (hg.block ob (blk_lt h1) fun e => by have := (hr _ e.symm).1; omega).trans h1, h2.kept hg ?_, h3.trans (Out.of_grown (F := fun g => row = some g) hg fun g h => h) fun g h => .inr (hr g h).1⟩
 cases hv : v.ownBlock with
 | none => exact .inl rfl
 | some g =>
  refine .inr fun e => ?_
  obtain ⟨cs, fr, h4⟩ := h2.cel hv
  obtain ⟨_, o, h5, h6⟩ := hr g e.symm
  rw [h4] at h5
  cases h5
  simp [Obj.isCells] at h6

theorem RI.app {ob : Nat} {W3 W W1 W2 : World} {l' : List Ov} {v v' : Value} (hob : ob < W3.heap.size) (hW3 : W3.heap.size ≤ W.heap.size) (h1 : W.heap[ob]? = some (.cells #[v] 48 (0, 0))) (h3 : Out (fun g => g = ob) W3 W) (b1 : Below W.heap.size W W1) (ho : OwnO 65 W3.heap.size W2 v' l') (b2 : Below W3.heap.size W1 W2) :
  RI ob W3 l' (W2.setCell ⟨ob, 0, none⟩ v') ∧ W2.heap[ob]? = some (.cells #[v] 48 (0, 0)) := by
 have h4 := (b2.block ob hob).trans ((b1.block ob (by omega)).trans h1)
 refine ⟨⟨v', by rw [set_cells h4]; simp, ?_, ?_⟩, h4⟩
 ·refine ho.kept (grown_setCell W2 ⟨ob, 0, none⟩ v') ?_
  cases hv : v'.ownBlock with
  | none => exact .inl rfl
  | some g =>
   refine .inr fun e => ?_
   have := (ho.block g hv).1
   simp at e
   omega
 ·have q1 : Out (fun g => g = ob) W3 W1 := h3.trans (Out.of_below (F := fun g => g = ob) b1) fun g hg => .inl hg
  have q2 : Out (fun g => g = ob) W3 W2 := ⟨b2.os.trans q1.os, b2.tape.trans q1.tape, b2.output.trans q1.output, Nat.le_trans q1.size b2.size, fun g hg hn => (b2.block g hg).trans (q1.block g hg hn)⟩
  exact q2.trans (Out.of_grown (F := fun g => g = ob) (grown_setCell W2 ⟨ob, 0, none⟩ v') fun g hg => by simpa using hg.symm) fun g hg => .inl hg

theorem grown_ko {W W' : World} {row : Option Nat} (h : W.grownBy W' row) (hr : ∀ g, row = some g → ∃ cs t fr, W.heap[g]? = some (.cells cs t fr)) : KeepsOthers W W' := ⟨h.size, fun k o hk ho => (h.block k (blk_lt hk) fun e => by
 obtain ⟨cs, t, fr, h1⟩ := hr k e.symm
 rw [hk] at h1
 cases h1
 simp [Obj.isCells] at ho).trans hk⟩

theorem fin_put {w W : World} {D : Nat} {v : Value} {l : List Ov} (h : OwnO 65 w.heap.size W v l ∧ Below w.heap.size w W) (hD : w.heap.size ≤ D) (hK : W.heap[D]? = some (.deferred (some []))) : OwnO 65 w.heap.size (W.putObj D (.deferred none)) v l ∧ Below w.heap.size w (W.putObj D (.deferred none)) := by
 refine ⟨h.1.kept (grownBy_putObj' W D (.deferred none)) ?_, h.2.grown (grownBy_putObj' W D (.deferred none)) h.2.size fun k hk => by cases hk; exact hD⟩
 cases hv : v.ownBlock with
 | none => exact .inl rfl
 | some g =>
  refine .inr fun e => ?_
  cases e
  obtain ⟨cs, fr, h4⟩ := h.1.cel hv
  rw [hK] at h4
  cases h4

end Go.Proofs.YtmmfakpphjjjfaaGreat

/- What a store goes over: the iterator of All, for one who gathers it in a list of his own. -/
namespace Go.Proofs.YtmmfakpphjjjfaaGreat
open Go.RowKit Go.Maps Go.Shelf
open Bm (Ov)
set_option linter.unusedVariables false
attribute [local go_sem] Oper.semAt_some

def RowB (ob : Nat) (W : World) (g : Nat) : Prop := ∃ u, W.cell? ⟨ob, 0, none⟩ = some u ∧ u.ownBlock = some g

def Kq (ob : Nat) (W W' : World) : Prop := W.heap.size ≤ W'.heap.size ∧ (∀ g cs t fr, W.heap[g]? = some (.cells cs t fr) → g ≠ ob → ¬ RowB ob W g → W'.heap[g]? = some (.cells cs t fr)) ∧ ∀ g, RowB ob W' g → RowB ob W g ∨ W.heap.size ≤ g

theorem Kq.trans {ob : Nat} {A B C : World} (h : Kq ob A B) (k : Kq ob B C) : Kq ob A C := by
 refine ⟨Nat.le_trans h.1 k.1, fun g cs t fr hg h1 h2 => ?_, fun g hg => ?_⟩
 ·refine k.2.1 g cs t fr (h.2.1 g cs t fr hg h1 h2) h1 fun e => ?_
  rcases h.2.2 g e with e | e
  ·exact h2 e
  ·have := blk_lt hg
   omega
 ·rcases k.2.2 g hg with e | e
  ·exact h.2.2 g e
  ·exact .inr (Nat.le_trans h.1 e)

theorem RowB.of {ob g : Nat} {W W' : World} (h : W'.heap[ob]? = W.heap[ob]?) : RowB ob W' g ↔ RowB ob W g := by
 unfold RowB
 rw [cell_of_blk h]

theorem kq_b {ob : Nat} {w : World} (hob : ob < w.heap.size) (W : World) (l : Nat) (o o' : Obj) (hl : w.heap.size ≤ l) (h1 : W.heap[l]? = some o) (h2 : o.isCells = false) (_ : o.isWalk = false) : Kq ob W (W.putObj l o') := by
 have hne : ∀ g, g ≠ l → (W.putObj l o').heap[g]? = W.heap[g]? := fun g hg => World.putObj_heap_other hg
 refine ⟨(grownBy_putObj' W l o').size, fun g cs t fr hg _ _ => ?_, fun g hg => .inl ?_⟩
 ·rw [hne g fun e => ?_]
  ·exact hg
  ·rw [e, h1] at hg
   cases hg
   simp [Obj.isCells] at h2
 ·exact (RowB.of (hne ob (by omega))).1 hg

theorem kq_kn {ob : Nat} {S : Nat → Prop} {W W' : World} (h : Kq ob W W') (h1 : ∀ g, S g → ∃ cs t fr, W.heap[g]? = some (.cells cs t fr)) (h2 : ∀ g, S g → g ≠ ob ∧ ¬ RowB ob W g) : Kn S W W' := fun g hg => by
 obtain ⟨cs, t, fr, e⟩ := h1 g hg
 rw [h.2.1 g cs t fr e (h2 g hg).1 (h2 g hg).2, e]

def SeqS (A B base : Nat) (w : World) (l : List Cm.Cv) (t : List Ov) : Prop := ∃ vr rr vo, base ≤ A ∧ base ≤ B ∧ w.heap[A]? = some (.cells #[vr] 76 (0, 0)) ∧ w.heap[B]? = some (.cells #[vo] 48 (0, 0)) ∧ Rq base w l vr rr ∧ OwnO 65 base w vo t

theorem SeqS.below {A B base : Nat} {w w' : World} {l : List Cm.Cv} {t : List Ov} (h : SeqS A B base w l t) (hb : Below w.heap.size w w') : SeqS A B base w' l t := by
 obtain ⟨vr, rr, vo, h1, h2, h3, h4, h5, h6⟩ := h
 exact ⟨vr, rr, vo, h1, h2, (hb.block A (blk_lt h3)).trans h3, (hb.block B (blk_lt h4)).trans h4, h5.below hb, h6.below hb⟩

theorem abides_below {β : Type} {n : Nat} {J : β → World → Prop} (h : AbidesFrom n J) {s : β} {W W' : World} (hj : J s W) (hb : Below W.heap.size W W') : J s W' :=
 h s W W' none hj ⟨hb.os, hb.tape, hb.output, hb.size, fun k hk _ => hb.block k hk⟩ (fun r e => by cases e)

def fldS (l : List Cm.Cv) (t : List Ov) : List Ov := Tm.app (Rl.tab l) t

theorem aft_run {l : List Cm.Cv} {c : Cm.Cv} (h : Rn.chk c.e c.n c.l = 0) : Tm.aft (Rl.tab l) c.l = Rl.tab (l ++ [c]) := by
 have h1 : Bm.first c.l = 0 := Bm.first_all (Rn.may_c (Rn.chk_zero h).2.2.2.2)
 unfold Tm.aft
 rw [if_pos h1, Rl.tab_snoc]

theorem run_few {rs : List Cw} (hg : ∀ c ∈ rs, Rn.chk c.e c.n c.l = 0) (k : Nat) (hk : k ≤ rs.length) : (Rl.tab (cvs (rs.take k))).length ≤ k * 1024 := by
 have h1 := Tm.app_len (Rl.ops (cvs (rs.take k))) []
 have h2 := Rl.ops_len (l := cvs (rs.take k)) (n := 1024) fun c hc => by
  obtain ⟨d, hd, rfl⟩ := List.mem_map.1 hc
  exact (fit_run (hg d (List.mem_of_mem_take hd))).2.2.2.2
 have h3 : (cvs (rs.take k)).length = k := by rw [cvs, List.length_map, List.length_take]; omega
 unfold Rl.tab
 simp only [List.length_nil, Nat.zero_add] at h1
 rw [h3] at h2
 omega

theorem cvs_nx {rs : List Cw} {k : Nat} {c : Cw} (h : rs[k]? = some c) : cvs (rs.take (k + 1)) = cvs (rs.take k) ++ [c.c] := by
 obtain ⟨h1, h2⟩ := List.getElem?_eq_some_iff.1 h
 rw [List.take_succ_eq_append_getElem h1, h2]
 simp [cvs]

set_option maxRecDepth 100000 in
set_option maxHeartbeats 8000000 in
theorem all_seq (n : Nat) (hn : 2 ≤ n) (A B base ob : Nat) (l : List Cm.Cv) (t : List Ov) (w : World) (h : SeqS A B base w l t) (ht : ∀ o ∈ t, o.c = 0) (hL : l.length * 1024 + t.length ≤ 900000) (hob : ob < w.heap.size) (hor : ∀ g, ¬ RowB ob w g) (m : List Ov) (hm : Tm.live (fldS l t) = m) :
  SeqStopsK Fence.wide n Tryz.prog 102 #[.pointer (some ⟨A, 0, none⟩), .pointer (some ⟨B, 0, none⟩)] (fun x : Nx m.length => #[.string (pt m x).k, .string (pt m x).v]) (Kq ob) (fun xs => xs = upn m.length m.length) (fun pre => ∃ k, k ≤ m.length ∧ pre = upn m.length k) m.length w := fun lp J Jx W hW hJ hJx hY h0 => by
 have hS := h.below hW
 obtain ⟨vr, rr, vo, g1, g2, g3, g4, g5, g6⟩ := hS
 have hoW : ∀ g, ¬ RowB ob W g := fun g e => hor g ((RowB.of (hW.block ob hob)).1 e)
 have hobW : ob < W.heap.size := Nat.lt_of_lt_of_le hob hW.size
 obtain ⟨ra, rc, hvr, _, _⟩ := g5.row.row.shape
 obtain ⟨oa, oc, hvo, _, _⟩ := g6.is.shape
 have cA : W.cell? ⟨A, 0, none⟩ = some vr := blk_cell g3 0 rfl
 have hA := blk_lt g3
 have hB := blk_lt g4
 have HR := hide g5
 have HO := hide g6
 have HG : Hid (∀ c ∈ rr, Rn.chk c.e c.n c.l = 0) := hide (good_get g5.good g5.is)
 have HT := hide ht
 have HJ := hide hJ
 have HJ0 := hide h0
 have HY := hide hY
 have cB : Hid (W.cell? ⟨B, 0, none⟩ = some vo) := hide (blk_cell g4 0 rfl)
 have HRL := hide g5.len
 obtain ⟨rn, hrn⟩ : ∃ n, rr.length = n := ⟨_, rfl⟩
 have HRN := hide hrn
 have hlr : l.length = rn := by rw [← hrn]; exact g5.len.symm
 rw [hlr] at hL
 rw [hrn] at hvr
 have HVO := hide hvo
 subst hvr
 clear h hW hJ hJx hY h0 ht hor g1 g2 g3 g4 g5 g6 hrn hlr
 refine callsIn_of_wp Tryz.func102 rfl trivial ?_ rfl
 simp only [Tryz.ntmps102, List.size_toArray, List.length_cons, List.length_nil, Nat.reduceAdd, Nat.reduceSub, Array.replicate_succ, Array.replicate_zero, List.push_toArray, List.append_toArray, List.nil_append, List.cons_append]
 gi_wp2_with fail
 refine ⟨trivial, fun _ => by omega, (callsIn_wide.2 (tnew_any W)).mono ?_⟩
 rintro E W1 ⟨rfl, T1, b1⟩
 obtain ⟨pm, hpm⟩ : ∃ x, W.heap.size + 1 = x := ⟨_, rfl⟩
 obtain ⟨bm, hbm⟩ : ∃ x, W.heap.size = x := ⟨_, rfl⟩
 rw [hpm] at T1 ⊢
 have T1' : Hid (Tb pm bm W1 (Rl.tab (cvs (rr.take 0)))) := hide (by rw [← hbm]; exact T1)
 have B1 := hide b1
 have hbm' : W.heap.size ≤ bm := by omega
 have hpm' : W.heap.size ≤ pm := by omega
 have cA1 := (b1.cell (p := ⟨A, 0, none⟩) hA).trans cA
 clear T1 b1 hpm hbm cA
 gi_wp2
 gi_loopw [10] (fun iv wr => ∃ k : Nat, k ≤ rn ∧ iv = .int .i64 k ∧ Hid (Tb pm bm wr (Rl.tab (cvs (rr.take k)))) ∧ Hid (Below W.heap.size W wr)) (fun iv _ => rn - (intOf iv).toNat)
 case atStart => exact ⟨0, Nat.zero_le _, rfl, T1', B1⟩
 case round =>
  obtain ⟨k, hk, rfl, TR, BR⟩ := hrel
  clear T1' B1 cA1
  by_cases hlt : k < rn
  ·obtain ⟨⟨ce, cn, cv, cl⟩, hc⟩ : ∃ c, rr[k]? = some c := ⟨rr[k]'(by have := HRN.out; omega), by rw [List.getElem?_eq_getElem]⟩
   obtain ⟨g, off, cq, hvx, _, _, hgw, hcell⟩ := HR.out.row.row.full (by have := HRN.out; omega)
   rw [HRN.out] at hvx
   simp only [Value.slice.injEq, true_and] at hvx
   obtain ⟨rfl, rfl⟩ := hvx
   obtain ⟨c0, c1, c2⟩ := hcell k _ hc
   have hmm := List.mem_of_getElem? hc
   have hch := HG.out _ hmm
   obtain ⟨f1, f2, f3, f4, f5⟩ := fit_run hch
   have hio := ((HR.out.isc.2 _ hmm).1).below BR.out
   have d0 := (BR.out.cell (p := ⟨g, off + k * 3, none⟩) hgw).trans c0
   have d1 := (BR.out.cell (p := ⟨g, off + k * 3 + 1, none⟩) hgw).trans c1
   have d2 := (BR.out.cell (p := ⟨g, off + k * 3 + 2, none⟩) hgw).trans c2
   obtain ⟨xa, xk, hvo, _, _⟩ := hio.shape
   obtain ⟨wc, hwc, hwc2, szc, belc, bC, x0, x1, x2⟩ := new_step wr 112 (.int .i64 0) (.int .i64 0) (.slice none 0 0) (.int .i64 ce) (.int .i64 cn) cv
   have hta := aft_run (l := cvs (rr.take k)) (c := ⟨ce, cn, cl⟩) hch
   have HA := hide (tapply_any pm bm wc _ cv cl (TR.out.below belc) (hio.below belc) f1 (by have h1 := run_few HG.out k (by have := HRN.out; omega); simp only at f5; omega))
   rw [hta, show cvs (rr.take k) ++ [(⟨ce, cn, cl⟩ : Cm.Cv)] = cvs (rr.take (k + 1)) from (cvs_nx hc).symm] at HA
   simp only at c0 c1 c2 d0 d1 d2 hvo
   subst hvo
   have hlt' : (k : Int) < rn := by omega
   have hk0 : (0 : Int) ≤ (k : Int) := by omega
   have BC := hide (BR.out.trans (belc.mono BR.out.size))
   clear hcell c0 c1 c2 hc hmm hch hio f1 f2 f3 f4 TR bC belc hta
   gi_wp2_with fail
   refine ⟨trivial, fun _ => by omega, (callsIn_wide.2 HA.out).mono ?_⟩
   rintro E w2 ⟨rfl, T2, O2⟩
   have T2 := hide T2
   have B2 := hide (BC.out.trans (O2.below (fun g hg => by omega) BC.out.size))
   clear O2 HA BC
   gi_wp2
   go_roundw
   case rel => exact ⟨k + 1, by omega, by go_num, T2, B2⟩
   case measure => simp [intOf]; omega
  ·have hlt' : ¬ (k : Int) < rn := by omega
   obtain rfl : k = rn := by omega
   have TE : Tb pm bm wr (Rl.tab l) := by
    have := TR.out
    rwa [List.take_of_length_le (by have := HRN.out; omega), HR.out.is] at this
   have hff : Bm.first t = 0 := Bm.first_all HT.out
   have hle : (Rl.tab l).length ≤ k * 1024 := by
    have := run_few HG.out k (by have := HRN.out; omega)
    rwa [List.take_of_length_le (by have := HRN.out; omega), HR.out.is] at this
   have HA := hide (tapply_any pm bm wr _ vo t TE (HO.out.is.below BR.out) (fit_c HT.out) (by omega))
   have hta : Tm.aft (Rl.tab l) t = fldS l t := by unfold Tm.aft; rw [if_pos hff]; rfl
   rw [hta, hff] at HA
   have hfl : (fldS l t).length ≤ 1000000 := by
    have := Tm.app_len t (Rl.tab l)
    unfold fldS
    omega
   have hft : FitO (fldS l t) := by
    refine fit_c fun o ho => ?_
    rcases Tm.mem_app t o (Rl.up_tab l) ho with e | e
    ·exact Rl.ops_c HR.out.good o ((Tm.mem_app _ o Rl.up_nil e).resolve_left (by simp))
    ·exact HT.out o e
   have cBr := (BR.out.cell (p := ⟨B, 0, none⟩) hB).trans cB.out
   rw [HVO.out] at HA cBr
   have HLF := hide (And.intro hfl hft)
   clear TR TE hff hta hle hfl hft cB
   gi_wp2_with fail
   refine ⟨trivial, fun _ => by omega, (callsIn_wide.2 HA.out).mono ?_⟩
   rintro E w2 ⟨rfl, T2, O2⟩
   have B2 := hide (BR.out.trans (O2.below (fun g hg => by omega) BR.out.size))
   have HLV := hide (tlive_of (.pointer (some ⟨pm, 0, none⟩)) w2 _ (tops_any pm bm w2 _ T2 HLF.out.2 HLF.out.1))
   clear HA T2 O2 BR
   gi_wp2_with fail
   refine ⟨trivial, fun _ => by omega, (callsIn_wide.2 HLV.out).mono ?_⟩
   rintro E w3 ⟨B', rfl, sq, b3⟩
   have B3 := hide (B2.out.trans (b3.mono B2.out.size))
   have sqlt := sq.lt
   obtain ⟨hb', v', h1', h2'⟩ := id sq
   have hw2 := B2.out.size
   have c0' : w3.cell? ⟨B', 0, none⟩ = some v' := blk_cell h1' 0 rfl
   have hSc : ∀ g, SeqTB B' w3 g → ∃ cs t fr, w3.heap[g]? = some (.cells cs t fr) := by
    rintro g (rfl | ⟨u, hu, hg⟩)
    ·exact ⟨_, _, _, h1'⟩
    ·rw [c0'] at hu
     cases hu
     obtain ⟨cs, fr, e⟩ := h2'.cel hg
     exact ⟨cs, _, fr, e⟩
   have hSo : ∀ g, SeqTB B' w3 g → g ≠ ob ∧ ¬ RowB ob w3 g := fun g hg => by
    have := (sqlt g hg).1
    exact ⟨by omega, fun e => hoW g ((RowB.of (B3.out.block ob hobW)).1 e)⟩
   have LV := hide (lvs_one n (by omega) lp B' (fldS l t) m.length (pt m) (fun i h => by rw [hm]; exact List.getElem?_eq_getElem h) (by rw [hm]) v' (SeqTB B' w3) (.inl rfl) (fun b hb => .inr ⟨v', c0', hb⟩) HLF.out.1
    (fun pre X => J pre X ∧ w3.heap.size ≤ X.heap.size ∧ (∀ g, SeqTB B' w3 g → ∃ cs t fr, X.heap[g]? = some (.cells cs t fr)) ∧ ∀ g, SeqTB B' w3 g → g ≠ ob ∧ ¬ RowB ob X g) Jx w3 (fun g hg => (sqlt g hg).2)
    (fun s X Y row hs hg hr => by
     obtain ⟨q1, q2, q3, q4⟩ := hs
     have hne : ∀ g, g < w3.heap.size → Y.heap[g]? = X.heap[g]? := fun g hg' => hg.block g (by omega) fun e => by have := (hr g e.symm).1; omega
     refine ⟨HJ.out s X Y row q1 hg fun r e => ⟨Nat.le_trans B3.out.size (hr r e).1, (hr r e).2⟩, Nat.le_trans q2 hg.size, fun g hg' => ?_, fun g hg' => ⟨(q4 g hg').1, fun e => (q4 g hg').2 ((RowB.of (hne ob (by have := B3.out.size; omega))).1 e)⟩⟩
     rw [hne g (sqlt g hg').2]
     exact q3 g hg')
    (fun pre x X hs hp => by
     obtain ⟨q1, q2, q3, q4⟩ := hs
     obtain ⟨fn, tmps, assign, body, hy, hR⟩ := HY.out pre x X q1 hp
     refine ⟨fn, tmps, assign, body, hy, hR.mono ?_⟩
     rintro e Y (⟨rfl, hj, hk⟩ | ⟨rfl, hj⟩)
     ·have hkn := kq_kn hk q3 q4
      refine .inl ⟨rfl, ⟨hj, Nat.le_trans q2 hk.1, fun g hg => ?_, fun g hg => ⟨(q4 g hg).1, fun e => ?_⟩⟩, hkn⟩
      ·rw [hkn g hg]
       exact q3 g hg
      ·rcases hk.2.2 g e with e | e
       ·exact (q4 g hg).2 e
       ·have := (sqlt g hg).2
        omega
     ·exact .inr ⟨rfl, hj⟩)
    c0' h2'.is ⟨abides_below HJ.out HJ0.out B3.out, Nat.le_refl _, hSc, hSo⟩)
   clear sq sqlt hb' h1' h2' hSc hSo B2 HLV
   gi_wp2_with fail
   refine ⟨trivial, fun _ => by omega, (callsIn_wide.2 (callsIn_wide.1 LV.out)).mono ?_⟩
   rintro E w4 ⟨⟨uu, rfl⟩, hfin⟩
   have HFIN := hide hfin
   clear hfin LV
   gi_wp2
   go_end0
   refine ⟨⟨_, rfl⟩, ?_⟩
   rcases HFIN.out with ⟨xs, hx, hj, _⟩ | hj
   ·exact .inl ⟨xs, hx, hj⟩
   ·exact .inr hj

end Go.Proofs.YtmmfakpphjjjfaaGreat
