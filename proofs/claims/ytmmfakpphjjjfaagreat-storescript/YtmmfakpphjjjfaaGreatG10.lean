/- Texts of one layer, one behind the other. -/
import Derived.Test.YtmmfakpphjjjfaaGreatG9
import Derived.Test.YtmmfakpphjjjfaaGreatG3
import Derived.Test.YtmmfakpphjjjfaaGreatG4
import Derived.Maps.AppendAt
import Derived.Test.YtmmfakpphjjjfaaGreatG5
/- The document's disk in memory, and the contracts of its small methods. -/
namespace Go.Proofs.YtmmfakpphjjjfaaGreat
open Go.RowKit
set_option linter.unusedVariables false

structure Rv where
 file : Nat
 cut : Bool
 to : Nat
 v : Value
 bytes : List Int

def Rv.r (r : Rv) : Dm.Rw := ⟨r.file, r.cut, r.to, r.bytes⟩
def rawc (r : Rv) : List Value := [.int .i64 r.file, .bool r.cut, .int .i64 r.to, r.v]
theorem rawc_len (r : Rv) : (rawc r).length = 4 := rfl

def dcells (s : Nat → Value) (wv : Value) (on has : Bool) (left count : Int) : Array Value := #[.bool true, s 0, s 1, s 2, s 3, wv, .bool on, .bool has, .int .i64 left, .int .i64 count]

structure DkV (p : Nat) (F : Nat → Prop) (w : World) (st : Dm.Ds) (s : Nat → Value) (wv : Value) (rs : List Rv) : Prop where
 blk : w.heap[p]? = some (.cells (dcells s wv st.on st.has st.left st.count) 73 (0, 0))
 inp : F p
 file : ∀ f, f < 4 → Byt F w (s f) (st.sure f)
 row : OwnG rawc 4 118 0 w wv rs
 inr : ∀ b, wv.ownBlock = some b → F b
 raw : ∀ r ∈ rs, Byt F w r.v r.bytes
 wait : rs.map Rv.r = st.wait
 lt : ∀ g, F g → g < w.heap.size
 ok : Dm.Ok st

def Dk (p : Nat) (F : Nat → Prop) (w : World) (st : Dm.Ds) : Prop := ∃ s wv rs, DkV p F w st s wv rs

section
variable {p : Nat} {F G : Nat → Prop} {w w' w1 w2 : World} {st st' : Dm.Ds} {s s' : Nat → Value} {wv wv' : Value} {rs rs' : List Rv}

theorem DkV.agree (h : DkV p F w st s wv rs) (ha : ∀ g, F g → w'.heap[g]? = w.heap[g]?) (hs : w.heap.size ≤ w'.heap.size) : DkV p F w' st s wv rs :=
 ⟨(ha p h.inp).trans h.blk, h.inp, fun f hf => (h.file f hf).agree fun b hb => ha b ((h.file f hf).2 b hb).1, h.row.agree fun b hb => ha b (h.inr b hb), h.inr, fun r hr => (h.raw r hr).agree fun b hb => ha b ((h.raw r hr).2 b hb).1, h.wait, fun g hg => Nat.lt_of_lt_of_le (h.lt g hg) hs, h.ok⟩

theorem Dk.lt (h : Dk p F w st) : ∀ g, F g → g < w.heap.size := by
 obtain ⟨s, wv, rs, h⟩ := h
 exact h.lt

theorem Dk.agree (h : Dk p F w st) (ha : ∀ g, F g → w'.heap[g]? = w.heap[g]?) (hs : w.heap.size ≤ w'.heap.size) : Dk p F w' st := by
 obtain ⟨s, wv, rs, h⟩ := h
 exact ⟨s, wv, rs, h.agree ha hs⟩

theorem Dk.below (h : Dk p F w st) (hb : Below w.heap.size w w') : Dk p F w' st := h.agree (fun g hg => hb.block g (h.lt g hg)) hb.size
theorem DkV.below (h : DkV p F w st s wv rs) (hb : Below w.heap.size w w') : DkV p F w' st s wv rs := h.agree (fun g hg => hb.block g (h.lt g hg)) hb.size

theorem Dk.out (h : Dk p F w st) (ho : Out G w w') (hd : ∀ g, F g → ¬ G g) : Dk p F w' st := h.agree (fun g hg => ho.block g (h.lt g hg) (hd g hg)) ho.size

def DStep (p : Nat) (F : Nat → Prop) (w w' : World) (st' : Dm.Ds) : Prop := ∃ F', Dk p F' w' st' ∧ Out F w w' ∧ ∀ g, F' g → F g ∨ w.heap.size ≤ g

theorem DStep.trans {F1 : Nat → Prop} (ho : Out F w w1) (hs : ∀ g, F1 g → F g ∨ w.heap.size ≤ g) (k : DStep p F1 w1 w2 st') : DStep p F w w2 st' := by
 obtain ⟨F2, h1, h2, h3⟩ := k
 refine ⟨F2, h1, ho.trans h2 hs, fun g hg => ?_⟩
 rcases h3 g hg with h | h
 ·exact hs g h
 ·exact .inr (Nat.le_trans ho.size h)

theorem DStep.same (h : Dk p F w st) (hb : Below w.heap.size w w') : DStep p F w w' st := ⟨F, h.below hb, Out.of_below hb, fun g hg => .inl hg⟩
theorem DStep.mk' (h : Dk p F w' st') (ho : Out F w w') : DStep p F w w' st' := ⟨F, h, ho, fun g hg => .inl hg⟩

theorem DkV.put (h : DkV p F w st s wv rs) (j : Nat) (u : Value)
  (hc : (dcells s wv st.on st.has st.left st.count).setIfInBounds j u = dcells s' wv' st'.on st'.has st'.left st'.count)
  (hf : ∀ f, f < 4 → Byt F w (s' f) (st'.sure f)) (hr : OwnG rawc 4 118 0 w wv' rs') (hir : ∀ b, wv'.ownBlock = some b → F b)
  (hw : ∀ r ∈ rs', Byt F w r.v r.bytes) (hwait : rs'.map Rv.r = st'.wait) (hok : Dm.Ok st') :
  DkV p F (w.setCell ⟨p, j, none⟩ u) st' s' wv' rs' ∧ Out F w (w.setCell ⟨p, j, none⟩ u) := by
 have hne : ∀ b, b ≠ p → (w.setCell ⟨p, j, none⟩ u).heap[b]? = w.heap[b]? := fun b hb => Below.heap_setCell _ _ _ _ hb
 have hsz : w.heap.size ≤ (w.setCell ⟨p, j, none⟩ u).heap.size := by simp [World.setCell]
 have hrp : ∀ b, wv'.ownBlock = some b → b ≠ p := by
  intro b hb e
  obtain ⟨cs, hc'⟩ := hr.type hb
  rw [e, h.blk] at hc'
  simp at hc'
 refine ⟨⟨?_, h.inp, fun f hf' => (hf f hf').agree fun b hb => hne b ((hf f hf').ne h.blk (by decide) b hb), hr.agree fun b hb => hne b (hrp b hb), hir, fun r hr' => (hw r hr').agree fun b hb => hne b ((hw r hr').ne h.blk (by decide) b hb), hwait, fun g hg => Nat.lt_of_lt_of_le (h.lt g hg) hsz, hok⟩, Out.of_grown (grown_setCell w ⟨p, j, none⟩ u) fun g hg => by simp at hg; subst hg; exact h.inp⟩
 rw [set_cells h.blk, hc]

theorem DkV.cell (h : DkV p F w st s wv rs) (j : Nat) {u : Value} (hj : (dcells s wv st.on st.has st.left st.count)[j]? = some u) : w.cell? ⟨p, j, none⟩ = some u := blk_cell h.blk j hj
theorem DkV.c0 (h : DkV p F w st s wv rs) : w.cell? ⟨p, 0, none⟩ = some (.bool true) := h.cell 0 rfl
theorem DkV.c5 (h : DkV p F w st s wv rs) : w.cell? ⟨p, 5, none⟩ = some wv := h.cell 5 rfl
theorem DkV.c6 (h : DkV p F w st s wv rs) : w.cell? ⟨p, 6, none⟩ = some (.bool st.on) := h.cell 6 rfl
theorem DkV.c7 (h : DkV p F w st s wv rs) : w.cell? ⟨p, 7, none⟩ = some (.bool st.has) := h.cell 7 rfl
theorem DkV.c8 (h : DkV p F w st s wv rs) : w.cell? ⟨p, 8, none⟩ = some (.int .i64 st.left) := h.cell 8 rfl
theorem DkV.c9 (h : DkV p F w st s wv rs) : w.cell? ⟨p, 9, none⟩ = some (.int .i64 st.count) := h.cell 9 rfl
theorem DkV.cf (h : DkV p F w st s wv rs) (f : Nat) (hf : f < 4) : w.cell? ⟨p, 1 + f, none⟩ = some (s f) := by
 rcases (show f = 0 ∨ f = 1 ∨ f = 2 ∨ f = 3 by omega) with rfl | rfl | rfl | rfl
 ·exact h.cell 1 rfl
 ·exact h.cell 2 rfl
 ·exact h.cell 3 rfl
 ·exact h.cell 4 rfl
theorem DkV.froz (h : DkV p F w st s wv rs) (j : Nat) : w.frozen? ⟨p, j, none⟩ = false := blk_froz h.blk j

end

theorem newR_any (w : World) : Calls Tryz.prog 7 #[] w fun E w' => E = .returned (.pointer (some ⟨w.heap.size, 0, none⟩)) ∧ Dk w.heap.size (fun g => g = w.heap.size) w' Dm.new ∧ Below w.heap.size w w' := by
 obtain ⟨w1, hw1, sz1, bel1, hB⟩ := blk_step w #[.bool true, .slice none 0 0, .slice none 0 0, .slice none 0 0, .slice none 0 0, .slice none 0 0, .bool true, .bool false, .int .i64 0, .int .i64 0] 73
 have D : Hid (Dk w.heap.size (fun g => g = w.heap.size) w1 Dm.new) := ⟨fun _ => .slice none 0 0, .slice none 0 0, [], hB, rfl, fun f _ => Byt.nil _ _, OwnG.nil _ _ _ _ _, fun b hb => by simp [Value.ownBlock] at hb, fun r hr => by simp at hr, rfl, fun g hg => by omega, trivial⟩
 clear hB
 go_enter Tryz.func7, Tryz.ntmps7
 go_wp2
 go_ret
 exact ⟨rfl, D.out, bel1⟩

set_option maxHeartbeats 400000 in
theorem noneR_any (p : Nat) (F : Nat → Prop) (w : World) (st : Dm.Ds) (h : Dk p F w st) : Calls Tryz.prog 60 #[.pointer (some ⟨p, 0, none⟩)] w fun E w' => E = .returned (.bool false) ∧ w = w' := by
 obtain ⟨s, wv, rs, h⟩ := h
 have c0 := h.c0
 clear h
 go_enter Tryz.func60, Tryz.ntmps60
 go_wp2
 go_ret
 exact ⟨rfl, rfl⟩

def ask (st : Dm.Ds) : Int := if st.on then 0 else 6

theorem ask_on {st : Dm.Ds} (h : st.on = true) : ask st = 0 := by simp [ask, h]
theorem ask_off {st : Dm.Ds} (h : st.on = false) : ask st = 6 := by simp [ask, h]

set_option maxHeartbeats 400000 in
theorem askedR_any (p : Nat) (F : Nat → Prop) (w : World) (st : Dm.Ds) (h : Dk p F w st) : Calls Tryz.prog 36 #[.pointer (some ⟨p, 0, none⟩)] w fun E w' => E = .returned (.int .i64 (ask st)) ∧ w = w' := by
 have hn := noneR_any p F w st h
 obtain ⟨s, wv, rs, h⟩ := h
 have c6 := h.c6
 have HN := hide hn
 clear h hn
 cases hon : st.on
 ·rw [hon] at c6
  rw [ask_off hon]
  clear hon
  go_enter Tryz.func36, Tryz.ntmps36
  go_wp2_with fail
  refine HN.out.mono ?_
  rintro E w1 ⟨rfl, rfl⟩
  go_wp2
  go_ret
  exact ⟨rfl, rfl⟩
 ·rw [hon] at c6
  rw [ask_on hon]
  clear hon
  go_enter Tryz.func36, Tryz.ntmps36
  go_wp2_with fail
  refine HN.out.mono ?_
  rintro E w1 ⟨rfl, rfl⟩
  go_wp2
  go_ret
  exact ⟨rfl, rfl⟩

theorem ok_dark {st : Dm.Ds} (h : Dm.Ok st) : Dm.Ok (Dm.dark st) := h
theorem ok_burn {st : Dm.Ds} (h : Dm.Ok st) : Dm.Ok (Dm.burn st) := h

set_option maxHeartbeats 400000 in
theorem stepR_any (p : Nat) (F : Nat → Prop) (w : World) (st : Dm.Ds) (h : Dk p F w st) (hl : st.left ≤ 9223372036854775807) (hc : st.count < 9223372036854775807) :
  Calls Tryz.prog 118 #[.pointer (some ⟨p, 0, none⟩)] w fun E w' => E = .returned (.int .i64 (if Dm.off st then 6 else 0)) ∧ DStep p F w w' (if Dm.off st then Dm.dark st else Dm.burn st) := by
 obtain ⟨s, wv, rs, h⟩ := h
 have c6 := h.c6
 have c7 := h.c7
 have c8 := h.c8
 have c9 := h.c9
 have f6 := h.froz 6
 have f8 := h.froz 8
 have f9 := h.froz 9
 cases hh : st.has
 ·have ho : Dm.off st = false := by simp [Dm.off, hh]
  rw [ho, if_neg (by simp), if_neg (by simp)]
  have hb : Dm.burn st = { st with count := st.count + 1 } := by simp [Dm.burn, hh]
  have R := h.put (st' := Dm.burn st) (s' := s) (wv' := wv) (rs' := rs) 9 (.int .i64 ((st.count : Int) + 1)) (by rw [hb]; simp [dcells]) (by rw [hb]; exact h.file) h.row h.inr h.raw (by rw [hb]; exact h.wait) (ok_burn h.ok)
  have HR : Hid (DStep p F w (w.setCell ⟨p, 9, none⟩ (.int .i64 ((st.count : Int) + 1))) (Dm.burn st)) := DStep.mk' ⟨_, _, _, R.1⟩ R.2
  rw [hh] at c7
  clear h R ho hb
  go_enter Tryz.func118, Tryz.ntmps118
  go_wp2
  go_ret
  exact ⟨rfl, HR.out⟩
 ·by_cases hz : st.left = 0
  ·have ho : Dm.off st = true := by simp [Dm.off, hh, hz]
   rw [ho, if_pos rfl, if_pos rfl]
   have R := h.put (st' := Dm.dark st) (s' := s) (wv' := wv) (rs' := rs) 6 (.bool false) rfl h.file h.row h.inr h.raw h.wait (ok_dark h.ok)
   have HR : Hid (DStep p F w (w.setCell ⟨p, 6, none⟩ (.bool false)) (Dm.dark st)) := DStep.mk' ⟨_, _, _, R.1⟩ R.2
   rw [hh] at c7
   rw [hz] at c8
   clear h R ho
   go_enter Tryz.func118, Tryz.ntmps118
   go_wp2
   go_ret
   exact ⟨rfl, HR.out⟩
  ·have ho : Dm.off st = false := by simp [Dm.off, hh, hz]
   rw [ho, if_neg (by simp), if_neg (by simp)]
   have hb : Dm.burn st = { st with left := st.left - 1, count := st.count + 1 } := by simp [Dm.burn, hh]
   have hsub : ((st.left - 1 : Nat) : Int) = (st.left : Int) - 1 := by omega
   have R1 := h.put (st' := { st with left := st.left - 1 }) (s' := s) (wv' := wv) (rs' := rs) 8 (.int .i64 ((st.left : Int) - 1)) (by simp [dcells, hsub]) h.file h.row h.inr h.raw h.wait h.ok
   have R2 := R1.1.put (st' := Dm.burn st) (s' := s) (wv' := wv) (rs' := rs) 9 (.int .i64 ((st.count : Int) + 1)) (by rw [hb]; simp [dcells]) (by rw [hb]; exact R1.1.file) R1.1.row R1.1.inr R1.1.raw (by rw [hb]; exact h.wait) (ok_burn h.ok)
   have HR : Hid (DStep p F w ((w.setCell ⟨p, 8, none⟩ (.int .i64 ((st.left : Int) - 1))).setCell ⟨p, 9, none⟩ (.int .i64 ((st.count : Int) + 1))) (Dm.burn st)) := DStep.mk' ⟨_, _, _, R2.1⟩ (R1.2.trans R2.2 fun g hg => .inl hg)
   have d9 := R1.1.c9
   have g9 := R1.1.froz 9
   have hz' : ((st.left : Int) == 0) = false := by simp; omega
   rw [hh] at c7
   clear h R1 R2 ho hb hsub
   go_enter Tryz.func118, Tryz.ntmps118
   go_wp2
   go_ret
   exact ⟨rfl, HR.out⟩

section
variable {P : Program} {w : World}

theorem run_append_is_at (t ty : TypeId) (k : IntKind) (e : TypeId) (base bytes : Nat) (ht : P.underlying t = some (.slice e)) (hinfo : (P.info? e).map (fun i => (i.zero, i.size, i.bytes)) = some (some (.int k 0), 1, bytes)) (hby : 0 < bytes)
  (v : Value) (zs : List Int) (hown : Own k e base w v zs) (vx : Value) (ys : List Int) (his : Is k w vx ys) (hlen : (zs.length + ys.length) * bytes ≤ 140737488355328) (hbase : base ≤ w.heap.size) :
  ∃ v' w', (Builtin.append_ #[t, t] ty #[v, vx]).run P w = .ok v' w' ∧ Own k e base w' v' (zs ++ ys) ∧ w.grownBy w' v.ownBlock ∧ (v'.ownBlock = v.ownBlock ∨ v'.ownBlock = some w.heap.size) := by
 obtain ⟨i, hi, hz, hsize, hb⟩ := info_parts hinfo
 have hn : zs.length + ys.length ≤ 140737488355328 := Nat.le_trans (Nat.le_mul_of_pos_right _ hby) hlen
 have hwf : ∀ z ∈ zs ++ ys, (Lit.int k z).wf = true := by
  intro z hz
  rcases List.mem_append.1 hz with hz | hz
  ·exact hown.1 z hz
  ·exact his.1 z hz
 rcases his.2 with ⟨hv, hy⟩ | ⟨ad, cap, hv, h1, h2, hc⟩
 ·subst hy hv
  have hrun := run_append_owned_none (P := P) (w := w) base t ty e i 1 ht hi v zs.length _ hown.2
  exact ⟨v, w, hrun, ⟨hwf, by simpa using hown.2⟩, World.grownBy.refl _ _, .inl rfl⟩
 ·subst hv
  obtain ⟨v', w', hr, h3, h4, _, h5⟩ := run_append_own_at (P := P) w base t ty e i (.int k 0) 1 bytes ht hi hz hsize hb rfl (by decide) v zs.length _ hown.2 ad ys.length cap (ys.map (Value.int k)) (by simp) (by
   intro j u hj
   rw [List.getElem?_map, Option.map_eq_some_iff] at hj
   obtain ⟨z, hz, rfl⟩ := hj
   obtain ⟨hj, hz⟩ := List.getElem?_eq_some_iff.1 hz
   rw [hc j hj, List.getD_eq_getElem?_getD, List.getElem?_eq_getElem hj, hz]
   rfl) (ints_oneCell k ys) (by unfold maxLen; omega) hlen hbase
  exact ⟨v', w', hr, ⟨hwf, by simpa [List.map_append] using h3⟩, h4, h5⟩

theorem run_append_rows_at {α : Type} (t ty : TypeId) (f : α → List Value) (k bytes : Nat) (hk : ∀ a, (f a).length = k) (h0 : 0 < k) (hb0 : 0 < bytes) (z : Value) (hzk : z.cells.size = k)
  (e : TypeId) (base : Nat) (ht : P.underlying t = some (.slice e)) (hinfo : (P.info? e).map (fun i => (i.zero, i.size, i.bytes)) = some (some z, k, bytes))
  (v : Value) (l : List α) (hown : OwnG f k e base w v l) (vx : Value) (m : List α) (his : RowG f w vx m) (hone : ∀ u ∈ gcells f m, u.oneCell' = true)
  (hlen : (l.length + m.length) * bytes ≤ 140737488355328) (hbase : base ≤ w.heap.size) :
  ∃ v' w', (Builtin.append_ #[t, t] ty #[v, vx]).run P w = .ok v' w' ∧ OwnG f k e base w' v' (l ++ m) ∧ w.grownBy w' v.ownBlock ∧ (v'.ownBlock = v.ownBlock ∨ v'.ownBlock = some w.heap.size) := by
 obtain ⟨i, hi, hz, hsize, hb⟩ := info_parts hinfo
 have hn : l.length + m.length ≤ 140737488355328 := Nat.le_trans (Nat.le_mul_of_pos_right _ hb0) hlen
 rcases his with ⟨hv, hy⟩ | ⟨ad, cap, hv, h1, h2, hc⟩
 ·subst hy hv
  have hrun := run_append_owned_none (P := P) (w := w) base t ty e i k ht hi v l.length _ hown
  exact ⟨v, w, hrun, by simpa using hown, World.grownBy.refl _ _, .inl rfl⟩
 ·subst hv
  obtain ⟨v', w', hr, h3, h4, _, h5⟩ := run_append_own_at (P := P) w base t ty e i z k bytes ht hi hz hsize hb hzk h0 v l.length _ hown ad m.length cap (gcells f m) (gcells_len hk m) hc hone (by unfold maxLen; omega) hlen hbase
  exact ⟨v', w', hr, by unfold OwnG; rw [gcells_app, List.length_append]; exact h3, h4, h5⟩

end

theorem own_cut {w : World} {base e size g n cap : Nat} {xs : List Value} (h : w.ownsRow base e size (.slice (some ⟨g, 0, none⟩) n cap) n xs) (m : Nat) (hm : m ≤ n) : w.ownsRow base e size (.slice (some ⟨g, 0, none⟩) m cap) m (xs.take (m * size)) := by
 obtain ⟨h1, h2⟩ := h
 have hle : m * size ≤ n * size := Nat.mul_le_mul_right _ hm
 refine ⟨by rw [List.length_take]; omega, ?_⟩
 rcases h2 with ⟨h', _⟩ | ⟨g', cap', cur, h', hb, hg, hnc, hcm, hcs, htake⟩
 ·simp at h'
 ·simp only [Value.slice.injEq, Option.some.injEq, Addr.mk.injEq, and_true, true_and] at h'
  obtain ⟨rfl, rfl⟩ := h'
  refine .inr ⟨g, cap, cur, rfl, hb, hg, by omega, hcm, hcs, ?_⟩
  rw [← htake, List.take_take]
  congr 1
  omega

theorem Own.agree {k : IntKind} {e : TypeId} {base : Nat} {w w' : World} {v : Value} {zs : List Int} (h : Own k e base w v zs) (hb : ∀ b, v.ownBlock = some b → w'.heap[b]? = w.heap[b]?) : Own k e base w' v zs := ⟨h.1, row_agree h.2 hb⟩

theorem Own.type {k : IntKind} {e base : Nat} {w : World} {v : Value} {zs : List Int} (h : Own k e base w v zs) {g : Nat} (hg : v.ownBlock = some g) : ∃ cs, w.heap[g]? = some (.cells cs e (0, 0)) := by
 rcases h.2.2 with ⟨rfl, _⟩ | ⟨g', cap, cur, rfl, _, hh, _⟩
 ·simp [Value.ownBlock] at hg
 ·simp [Value.ownBlock] at hg
  subst hg
  exact ⟨_, hh⟩

theorem Own.slice_h {P : Program} {k : IntKind} {e base : Nat} {w : World} {v : Value} {zs : List Int} (h : Own k e base w v zs) {t : TypeId} (ht : P.underlying t = some (.slice (P.elem t))) (hs : ∀ wx, (sizeOf (P.elem t)).run P wx = .ok 1 wx) (p : Nat) (hp : p ≤ zs.length) :
  ∃ vs, (∀ wx, (Instr.slice t v none (some (.int .i64 p)) none).run P wx = .ok vs wx) ∧ Own k e base w vs (zs.take p) ∧ (∀ b, vs.ownBlock = some b → v.ownBlock = some b) := by
 have hwf : ∀ z ∈ zs.take p, (Lit.int k z).wf = true := fun z hz => h.1 z (List.mem_of_mem_take hz)
 have hl : (zs.take p).length = p := by rw [List.length_take]; omega
 rcases h.2.2 with ⟨rfl, hn⟩ | ⟨g, cap, cur, rfl, hb, hg, hnc, hcm, hcs, htake⟩
 ·obtain rfl : p = 0 := by omega
  refine ⟨.slice none 0 0, fun wx => ?_, ⟨hwf, by rw [hl]; simpa using World.ownsRow_nil w base e 1⟩, fun b hb => hb⟩
  rw [run_slice_h wx t none 0 0 ht .i64 _ (by omega) (by omega)]
  simp [Result.andThen, sliced, hs]
 ·refine ⟨.slice (some ⟨g, 0, none⟩) p cap, fun wx => ?_, ⟨hwf, ?_⟩, fun b hb => hb⟩
  ·rw [run_slice_h wx t _ zs.length cap ht .i64 _ (by omega) (by omega)]
   simp [Result.andThen, sliced, hs, Addr.add]
  ·have := own_cut h.2 p hp
   rw [hl, List.map_take]
   simpa using this

section
variable {P : Program} {w : World} {ops : Array Oper} {rest : List Oper} {o : Oper} {a : Act} {Q : Exit → Act → World → Prop}

theorem wpList_append_at (hgd : o.guard = none) (s x : Operand) (t : TypeId) (ho : o.op = .call { callee := .builtin .append, args := #[s, x], argTypes := #[t, t] })
  (v vx : Value) (hs : a.eval s = v) (hx : a.eval x = vx) {R : Value → World → Prop} (hrun : ∀ ty, ∃ v' w', (Builtin.append_ #[t, t] ty #[v, vx]).run P w = .ok v' w' ∧ R v' w')
  (h : ∀ v' w', R v' w' → wpList P ops Q rest (a.put o.dst v') w') : wpList P ops Q (o :: rest) a w := by
 refine wpList_plain hgd fun K hK => ?_
 obtain ⟨v', w', hr, hR⟩ := hrun o.type
 unfold Oper.wp execOp
 simp only [ho, resolve, invoke, builtin, Sem.run_bind, Sem.run_pure, Result.andThen_ok, List.map_toArray, List.map_cons, List.map_nil, hs, hx, hr]
 exact hK _ _ (h v' w' hR)

theorem step_append_at {K : Act → World → Prop} {E : Prop} (hgd : o.guard = none) (s x : Operand) (t : TypeId) (ho : o.op = .call { callee := .builtin .append, args := #[s, x], argTypes := #[t, t] })
  (v vx : Value) (hs : a.eval s = v) (hx : a.eval x = vx) {R : Value → World → Prop} (hrun : ∀ ty, ∃ v' w', (Builtin.append_ #[t, t] ty #[v, vx]).run P w = .ok v' w' ∧ R v' w')
  (h : ∀ v' w', R v' w' → K (a.put o.dst v') w') : if Region.wanted o (yielded ops a.tmps) = true then Oper.wp P o a w K Q else E := by
 have hw : Region.wanted o (yielded ops a.tmps) = true := by simp [Region.wanted, hgd]
 rw [if_pos hw]
 obtain ⟨v', w', hr, hR⟩ := hrun o.type
 unfold Oper.wp execOp
 simp only [ho, resolve, invoke, builtin, Sem.run_bind, Sem.run_pure, Result.andThen_ok, List.map_toArray, List.map_cons, List.map_nil, hs, hx, hr]
 exact h v' w' hR

theorem call_at {K : Act → World → Prop} {E : Prop} (hgd : o.guard = none) (f : FuncId) (args : Array Operand) (ts : Array TypeId)
  (ho : o.op = .call { callee := .value (.func f), args := args, argTypes := ts }) (hent : ∀ args w, (callFunc f args).run P w = .ok (.enter f args) w) (vs : Array Value) (hvs : args.map a.eval = vs)
  {R : Value → World → Prop} (hc : Calls P f vs w fun e w' => ∃ v, e = .returned v ∧ R v w') (h : ∀ v w', R v w' → K (a.put o.dst v) w') :
  if Region.wanted o (yielded ops a.tmps) = true then Oper.wp P o a w K Q else E := by
 have hw : Region.wanted o (yielded ops a.tmps) = true := by simp [Region.wanted, hgd]
 rw [if_pos hw]
 unfold Oper.wp
 simp only [execOp, ho, resolve, invoke, Sem.run_bind, hvs]
 simp only [Act.eval, Deferred.ofValue, Sem.run_pure, Result.andThen_ok, Array.empty_append, hent]
 rw [Oper.upon_enter]
 refine hc.mono ?_
 rintro e w' ⟨v, rfl, hr⟩
 exact h v w' hr

end

theorem new_four (w : World) (t : TypeId) (x y z u a b c d : Value) : ∃ V, (((((w.alloc (.cells #[x, y, z, u] t)).setCell ⟨w.heap.size, 0, none⟩ a).setCell ⟨w.heap.size, 1, none⟩ b).setCell ⟨w.heap.size, 2, none⟩ c).setCell ⟨w.heap.size, 3, none⟩ d = V) ∧ w.alloc (.cells #[a, b, c, d] t) = V ∧ V.heap.size = w.heap.size + 1 ∧ Below w.heap.size w V ∧ V.heap[w.heap.size]? = some (.cells #[a, b, c, d] t (0, 0)) ∧
  V.cell? ⟨w.heap.size, 0, none⟩ = some a ∧ V.cell? ⟨w.heap.size, 1, none⟩ = some b ∧ V.cell? ⟨w.heap.size, 2, none⟩ = some c ∧ V.cell? ⟨w.heap.size, 3, none⟩ = some d := by
 obtain ⟨V, h1, h2, h3, h4⟩ := blk_step w #[a, b, c, d] t
 refine ⟨V, ?_, h1, h2, h3, h4, blk_cell h4 0 rfl, blk_cell h4 1 rfl, blk_cell h4 2 rfl, blk_cell h4 3 rfl⟩
 rw [← h1]
 simp [go_sem]

theorem wrap64s (z : Int) (h0 : -9223372036854775808 ≤ z) (h1 : z < 9223372036854775808) : IntKind.i64.wrap z = z := by
 unfold IntKind.wrap
 simp [IntKind.bits, IntKind.signed]
 omega

def kof (r : Rv) : Int := if r.cut then 1 else 0

def stepc (r : Rv) : List Value := [.int .i64 (kof r), .int .i64 r.file, r.v, .int .i64 r.to]
theorem stepc_len (r : Rv) : (stepc r).length = 4 := rfl

def pfuse (st : Dm.Ds) : Int := if st.has then st.left else -1

def pcells (s : Nat → Value) (wv : Value) (on : Bool) (fuse count : Int) : Array Value := #[.bool true, .bool on, .int .i64 fuse, s 0, s 1, s 2, s 3, wv, .int .i64 count]

def FB (p : Nat) (s : Nat → Value) (wv : Value) (rs : List Rv) (g : Nat) : Prop :=
 g = p ∨ (∃ f, f < 4 ∧ (s f).ownBlock = some g) ∨ wv.ownBlock = some g ∨ ∃ r ∈ rs, r.v.ownBlock = some g

structure Con (w : World) (sure : Nat → List Int) (wait : List Dm.Rw) (s : Nat → Value) (wv : Value) (rs : List Rv) : Prop where
 file : ∀ f, f < 4 → Own .u8 5 0 w (s f) (sure f)
 apart : ∀ f g, f < 4 → g < 4 → f ≠ g → ∀ b, (s f).ownBlock = some b → (s g).ownBlock ≠ some b
 row : OwnG stepc 4 143 0 w wv rs
 raw : ∀ r ∈ rs, Byt (fun _ => True) w r.v r.bytes
 rawa : ∀ r ∈ rs, ∀ f, f < 4 → ∀ b, r.v.ownBlock = some b → (s f).ownBlock ≠ some b
 wait : rs.map Rv.r = wait

structure PkV (p : Nat) (w : World) (st : Dm.Ds) (s : Nat → Value) (wv : Value) (rs : List Rv) : Prop where
 blk : w.heap[p]? = some (.cells (pcells s wv st.on (pfuse st) st.count) 70 (0, 0))
 con : Con w st.sure st.wait s wv rs
 ok : Dm.Ok st

def Pk (p : Nat) (F : Nat → Prop) (w : World) (st : Dm.Ds) : Prop := ∃ s wv rs, PkV p w st s wv rs ∧ F = FB p s wv rs

section
variable {p : Nat} {F G : Nat → Prop} {w w' w1 w2 : World} {st st' : Dm.Ds} {sure sure' : Nat → List Int} {wait wait' : List Dm.Rw} {s s' : Nat → Value} {wv wv' : Value} {rs rs' : List Rv}

theorem Con.agree (h : Con w sure wait s wv rs) (ha : ∀ g, FB p s wv rs g → w'.heap[g]? = w.heap[g]?) : Con w' sure wait s wv rs :=
 ⟨fun f hf => (h.file f hf).agree fun b hb => ha b (.inr (.inl ⟨f, hf, hb⟩)), h.apart, h.row.agree fun b hb => ha b (.inr (.inr (.inl hb))), fun r hr => (h.raw r hr).agree fun b hb => ha b (.inr (.inr (.inr ⟨r, hr, hb⟩))), h.rawa, h.wait⟩

theorem Con.cel (h : Con w sure wait s wv rs) {cs : Array Value} {t : TypeId} {fr : Nat × Nat} (hp : w.heap[p]? = some (.cells cs t fr)) : ∀ g, FB p s wv rs g → ∃ cs t fr, w.heap[g]? = some (.cells cs t fr) := by
 rintro g (rfl | ⟨f, hf, hb⟩ | hb | ⟨r, hr, hb⟩)
 ·exact ⟨_, _, _, hp⟩
 ·obtain ⟨cs, hc⟩ := (h.file f hf).type hb
  exact ⟨_, _, _, hc⟩
 ·obtain ⟨cs, hc⟩ := h.row.type hb
  exact ⟨_, _, _, hc⟩
 ·obtain ⟨_, cs, fr, hc⟩ := (h.raw r hr).2 g hb
  exact ⟨_, _, _, hc⟩

theorem Con.ne (h : Con w sure wait s wv rs) {q : Nat} {cs : Array Value} {t : TypeId} {fr : Nat × Nat} (hq : w.heap[q]? = some (.cells cs t fr)) (h1 : t ≠ 5) (h2 : t ≠ 143) :
  (∀ f, f < 4 → ∀ b, (s f).ownBlock = some b → b ≠ q) ∧ (∀ b, wv.ownBlock = some b → b ≠ q) ∧ ∀ r ∈ rs, ∀ b, r.v.ownBlock = some b → b ≠ q := by
 refine ⟨fun f hf b hb e => ?_, fun b hb e => ?_, fun r hr b hb e => ?_⟩
 ·obtain ⟨cs, hc⟩ := (h.file f hf).type hb
  rw [e, hq] at hc
  simp at hc
  exact h1 hc.2.1
 ·obtain ⟨cs, hc⟩ := h.row.type hb
  rw [e, hq] at hc
  simp at hc
  exact h2 hc.2.1
 ·obtain ⟨_, cs, fr, hc⟩ := (h.raw r hr).2 b hb
  rw [e, hq] at hc
  simp at hc
  exact h1 hc.2.1

theorem Con.but (h : Con w sure wait s wv rs) {q : Nat} {cs : Array Value} {t : TypeId} {fr : Nat × Nat} (hq : w.heap[q]? = some (.cells cs t fr)) (h1 : t ≠ 5) (h2 : t ≠ 143) (ha : ∀ b, b ≠ q → b < w.heap.size → w'.heap[b]? = w.heap[b]?) : Con w' sure wait s wv rs := by
 obtain ⟨n1, n2, n3⟩ := h.ne hq h1 h2
 exact ⟨fun f hf => (h.file f hf).agree fun b hb => ha b (n1 f hf b hb) ((h.file f hf).block b hb).2, h.apart, h.row.agree fun b hb => ha b (n2 b hb) (h.row.lt b hb).2, fun r hr => (h.raw r hr).agree fun b hb => ha b (n3 r hr b hb) (by obtain ⟨_, cs, fr, hc⟩ := (h.raw r hr).2 b hb; exact blk_lt hc), h.rawa, h.wait⟩

theorem Con.len (h : Con w sure wait s wv rs) : wait.length = rs.length := by rw [← h.wait, List.length_map]

theorem PkV.cel (h : PkV p w st s wv rs) : ∀ g, FB p s wv rs g → ∃ cs t fr, w.heap[g]? = some (.cells cs t fr) := h.con.cel h.blk
theorem PkV.lt (h : PkV p w st s wv rs) : ∀ g, FB p s wv rs g → g < w.heap.size := fun g hg => by
 obtain ⟨cs, t, fr, hc⟩ := h.cel g hg
 exact blk_lt hc
theorem PkV.agree (h : PkV p w st s wv rs) (ha : ∀ g, FB p s wv rs g → w'.heap[g]? = w.heap[g]?) : PkV p w' st s wv rs := ⟨(ha p (.inl rfl)).trans h.blk, h.con.agree ha, h.ok⟩
theorem PkV.below (h : PkV p w st s wv rs) (hb : Below w.heap.size w w') : PkV p w' st s wv rs := h.agree fun g hg => hb.block g (h.lt g hg)

theorem Pk.cel (h : Pk p F w st) : ∀ g, F g → ∃ cs t fr, w.heap[g]? = some (.cells cs t fr) := by
 obtain ⟨s, wv, rs, h, rfl⟩ := h
 exact h.cel
theorem Pk.lt (h : Pk p F w st) : ∀ g, F g → g < w.heap.size := by
 obtain ⟨s, wv, rs, h, rfl⟩ := h
 exact h.lt
theorem Pk.agree (h : Pk p F w st) (ha : ∀ g, F g → w'.heap[g]? = w.heap[g]?) : Pk p F w' st := by
 obtain ⟨s, wv, rs, h, rfl⟩ := h
 exact ⟨s, wv, rs, h.agree ha, rfl⟩
theorem Pk.below (h : Pk p F w st) (hb : Below w.heap.size w w') : Pk p F w' st := h.agree fun g hg => hb.block g (h.lt g hg)
theorem Pk.out (h : Pk p F w st) (ho : Out G w w') (hd : ∀ g, F g → ¬ G g) : Pk p F w' st := h.agree fun g hg => ho.block g (h.lt g hg) (hd g hg)

def PStep (p : Nat) (F : Nat → Prop) (w w' : World) (st' : Dm.Ds) : Prop := ∃ F', Pk p F' w' st' ∧ Out F w w' ∧ ∀ g, F' g → F g ∨ w.heap.size ≤ g

theorem PStep.trans {F1 : Nat → Prop} (ho : Out F w w1) (hs : ∀ g, F1 g → F g ∨ w.heap.size ≤ g) (k : PStep p F1 w1 w2 st') : PStep p F w w2 st' := by
 obtain ⟨F2, h1, h2, h3⟩ := k
 refine ⟨F2, h1, ho.trans h2 hs, fun g hg => ?_⟩
 rcases h3 g hg with h | h
 ·exact hs g h
 ·exact .inr (Nat.le_trans ho.size h)

theorem PStep.same (h : Pk p F w st) (hb : Below w.heap.size w w') : PStep p F w w' st := ⟨F, h.below hb, Out.of_below hb, fun g hg => .inl hg⟩

theorem PStep.pre (hb : Below w.heap.size w w1) (h : PStep p F w1 w2 st') : PStep p F w w2 st' := h.trans (Out.of_below hb) fun g hg => .inl hg

theorem PkV.put {cs : Array Value} (hblk : w.heap[p]? = some (.cells cs 70 (0, 0))) (j : Nat) (u : Value) (hc : cs.setIfInBounds j u = pcells s' wv' st'.on (pfuse st') st'.count) (hcon : Con w st'.sure st'.wait s' wv' rs') (hok : Dm.Ok st') :
  PkV p (w.setCell ⟨p, j, none⟩ u) st' s' wv' rs' ∧ Out (fun g => g = p) w (w.setCell ⟨p, j, none⟩ u) := by
 refine ⟨⟨by rw [set_cells hblk, hc], hcon.but hblk (by decide) (by decide) fun b hb _ => Below.heap_setCell _ _ _ _ hb, hok⟩, Out.of_grown (grown_setCell w ⟨p, j, none⟩ u) fun g hg => by simp at hg; exact hg.symm⟩

theorem PkV.set (h : PkV p w st s wv rs) (j : Nat) (u : Value) (hc : (pcells s wv st.on (pfuse st) st.count).setIfInBounds j u = pcells s wv st'.on (pfuse st') st'.count) (h1 : st'.sure = st.sure) (h2 : st'.wait = st.wait) :
  PkV p (w.setCell ⟨p, j, none⟩ u) st' s wv rs ∧ Out (FB p s wv rs) w (w.setCell ⟨p, j, none⟩ u) := by
 obtain ⟨r1, r2⟩ := PkV.put (st' := st') (s' := s) (wv' := wv) (rs' := rs) h.blk j u hc (by rw [h1, h2]; exact h.con) (by have := h.ok; unfold Dm.Ok at this ⊢; rw [h1, h2]; exact this)
 exact ⟨r1, r2.mono fun g hg => .inl (.inl hg)⟩

theorem PStep.of_set (h : PkV p w' st' s wv rs) (ho : Out (FB p s wv rs) w w') : PStep p (FB p s wv rs) w w' st' := ⟨_, ⟨s, wv, rs, h, rfl⟩, ho, fun g hg => .inl hg⟩

theorem PkV.cell (h : PkV p w st s wv rs) (j : Nat) {u : Value} (hj : (pcells s wv st.on (pfuse st) st.count)[j]? = some u) : w.cell? ⟨p, j, none⟩ = some u := blk_cell h.blk j hj
theorem PkV.c0 (h : PkV p w st s wv rs) : w.cell? ⟨p, 0, none⟩ = some (.bool true) := h.cell 0 rfl
theorem PkV.c1 (h : PkV p w st s wv rs) : w.cell? ⟨p, 1, none⟩ = some (.bool st.on) := h.cell 1 rfl
theorem PkV.c2 (h : PkV p w st s wv rs) : w.cell? ⟨p, 2, none⟩ = some (.int .i64 (pfuse st)) := h.cell 2 rfl
theorem PkV.c7 (h : PkV p w st s wv rs) : w.cell? ⟨p, 7, none⟩ = some wv := h.cell 7 rfl
theorem PkV.c8 (h : PkV p w st s wv rs) : w.cell? ⟨p, 8, none⟩ = some (.int .i64 st.count) := h.cell 8 rfl
theorem pc_f {cs : Array Value} {on : Bool} {fuse count : Int} (h : w.heap[p]? = some (.cells (pcells s wv on fuse count) 70 (0, 0))) (f : Nat) (hf : f < 4) : w.cell? ⟨p, 3 + f, none⟩ = some (s f) := by
 rcases (show f = 0 ∨ f = 1 ∨ f = 2 ∨ f = 3 by omega) with rfl | rfl | rfl | rfl
 ·exact blk_cell h 3 rfl
 ·exact blk_cell h 4 rfl
 ·exact blk_cell h 5 rfl
 ·exact blk_cell h 6 rfl
theorem PkV.cf (h : PkV p w st s wv rs) (f : Nat) (hf : f < 4) : w.cell? ⟨p, 3 + f, none⟩ = some (s f) := pc_f (cs := #[]) h.blk f hf
theorem PkV.froz (h : PkV p w st s wv rs) (j : Nat) : w.frozen? ⟨p, j, none⟩ = false := blk_froz h.blk j

end

theorem new_any (w : World) : Calls Tryz.prog 6 #[] w fun E w' => E = .returned (.pointer (some ⟨w.heap.size, 0, none⟩)) ∧ Pk w.heap.size (fun g => g = w.heap.size) w' Dm.new ∧ Below w.heap.size w w' := by
 obtain ⟨w1, hw1, sz1, bel1, hB⟩ := blk_step w #[.bool true, .bool true, .int .i64 (-1), .slice none 0 0, .slice none 0 0, .slice none 0 0, .slice none 0 0, .slice none 0 0, .int .i64 0] 70
 have D : Hid (Pk w.heap.size (fun g => g = w.heap.size) w1 Dm.new) := ⟨fun _ => .slice none 0 0, .slice none 0 0, [], ⟨hB, ⟨fun f _ => Own.nil _ _ _ _, fun f g _ _ _ b hb => by simp [Value.ownBlock] at hb, OwnG.nil _ _ _ _ _, fun r hr => by simp at hr, fun r hr => by simp at hr, rfl⟩, trivial⟩, by funext g; simp [FB, Value.ownBlock]⟩
 clear hB
 go_enter Tryz.func6, Tryz.ntmps6
 go_wp2
 go_ret
 exact ⟨rfl, D.out, bel1⟩

set_option maxHeartbeats 400000 in
theorem made_any (p : Nat) (F : Nat → Prop) (w : World) (st : Dm.Ds) (h : Pk p F w st) : Calls Tryz.prog 59 #[.pointer (some ⟨p, 0, none⟩)] w fun E w' => E = .returned (.bool true) ∧ w = w' := by
 obtain ⟨s, wv, rs, h, rfl⟩ := h
 have c0 := h.c0
 clear h
 go_enter Tryz.func59, Tryz.ntmps59
 go_wp2
 go_ret
 exact ⟨rfl, rfl⟩

set_option maxHeartbeats 400000 in
theorem refuses_any (p : Nat) (F : Nat → Prop) (w : World) (st : Dm.Ds) (h : Pk p F w st) : Calls Tryz.prog 35 #[.pointer (some ⟨p, 0, none⟩)] w fun E w' => E = .returned (.int .i64 (ask st)) ∧ w = w' := by
 have hn := made_any p F w st h
 obtain ⟨s, wv, rs, h, rfl⟩ := h
 have c1 := h.c1
 have HN := hide hn
 clear h hn
 cases hon : st.on
 ·rw [hon] at c1
  rw [ask_off hon]
  clear hon
  go_enter Tryz.func35, Tryz.ntmps35
  go_wp2_with fail
  refine HN.out.mono ?_
  rintro E w1 ⟨rfl, rfl⟩
  go_wp2
  go_ret
  exact ⟨rfl, rfl⟩
 ·rw [hon] at c1
  rw [ask_on hon]
  clear hon
  go_enter Tryz.func35, Tryz.ntmps35
  go_wp2_with fail
  refine HN.out.mono ?_
  rintro E w1 ⟨rfl, rfl⟩
  go_wp2
  go_ret
  exact ⟨rfl, rfl⟩

theorem isfile_any (f : Int) (w : World) : Calls Tryz.prog 64 #[.int .i64 f] w fun E w' => E = .returned (.bool (Dm.inF f)) ∧ w = w' := by
 unfold Dm.inF
 by_cases h0 : 0 ≤ f
 ·by_cases h4 : f < 4
  ·rw [decide_eq_true h0, decide_eq_true h4]
   go_enter Tryz.func64, Tryz.ntmps64
   go_wp2
   go_ret
   exact ⟨rfl, rfl⟩
  ·rw [decide_eq_true h0, decide_eq_false h4]
   go_enter Tryz.func64, Tryz.ntmps64
   go_wp2
   go_ret
   exact ⟨rfl, rfl⟩
 ·rw [decide_eq_false h0, Bool.false_and]
  go_enter Tryz.func64, Tryz.ntmps64
  go_wp2
  go_ret
  exact ⟨rfl, rfl⟩

set_option maxHeartbeats 400000 in
theorem on_any (p : Nat) (F : Nat → Prop) (w : World) (st : Dm.Ds) (h : Pk p F w st) : Calls Tryz.prog 152 #[.pointer (some ⟨p, 0, none⟩)] w fun E w' => E = .returned (.bool st.on) ∧ w = w' := by
 have hn := made_any p F w st h
 obtain ⟨s, wv, rs, h, rfl⟩ := h
 have c1 := h.c1
 have HN := hide hn
 clear h hn
 go_enter Tryz.func152, Tryz.ntmps152
 go_wp2_with fail
 refine HN.out.mono ?_
 rintro E w1 ⟨rfl, rfl⟩
 go_wp2
 go_ret
 exact ⟨rfl, rfl⟩

set_option maxHeartbeats 400000 in
theorem steps_any (p : Nat) (F : Nat → Prop) (w : World) (st : Dm.Ds) (h : Pk p F w st) : Calls Tryz.prog 22 #[.pointer (some ⟨p, 0, none⟩)] w fun E w' => E = .returned (.int .i64 st.count) ∧ w = w' := by
 have hn := made_any p F w st h
 obtain ⟨s, wv, rs, h, rfl⟩ := h
 have c8 := h.c8
 have HN := hide hn
 clear h hn
 go_enter Tryz.func22, Tryz.ntmps22
 go_wp2_with fail
 refine HN.out.mono ?_
 rintro E w1 ⟨rfl, rfl⟩
 go_wp2
 go_ret
 exact ⟨rfl, rfl⟩

set_option maxHeartbeats 400000 in
theorem fuse_any (p : Nat) (F : Nat → Prop) (w : World) (st : Dm.Ds) (n : Int) (h : Pk p F w st) :
  Calls Tryz.prog 10 #[.pointer (some ⟨p, 0, none⟩), .int .i64 n] w fun E w' => E = .returned (.int .i64 (Dm.fuse st n).1) ∧ PStep p F w w' (Dm.fuse st n).2 := by
 have ha := refuses_any p F w st h
 have HK := hide h
 obtain ⟨s, wv, rs, h, rfl⟩ := h
 have c2 := h.c2
 have f2 := h.froz 2
 have HA := hide ha
 clear ha
 unfold Dm.fuse
 cases hon : st.on
 ·rw [if_pos rfl]
  have hk := ask_off hon
  clear hon h
  go_enter Tryz.func10, Tryz.ntmps10
  go_wp2_with fail
  refine HA.out.mono ?_
  rintro E w1 ⟨rfl, rfl⟩
  rw [hk]
  go_wp2
  go_ret
  exact ⟨rfl, PStep.same HK.out (Below.refl _ _)⟩
 ·rw [if_neg (by simp)]
  have hk := ask_on hon
  by_cases hn : n < 0
  ·rw [if_pos hn]
   clear hon h
   go_enter Tryz.func10, Tryz.ntmps10
   go_wp2_with fail
   refine HA.out.mono ?_
   rintro E w1 ⟨rfl, rfl⟩
   rw [hk]
   go_wp2
   go_ret
   exact ⟨rfl, PStep.same HK.out (Below.refl _ _)⟩
  ·rw [if_neg hn]
   have hcast : ((n.toNat : Nat) : Int) = n := by omega
   have R := h.set (st' := { st with has := true, left := n.toNat }) 2 (.int .i64 n) (by simp [pcells, pfuse, hcast]) rfl rfl
   have HR : Hid (PStep p (FB p s wv rs) w (w.setCell ⟨p, 2, none⟩ (.int .i64 n)) { st with has := true, left := n.toNat }) := PStep.of_set R.1 R.2
   have hs : { st with has := true, left := n.toNat } = ({ sure := st.sure, wait := st.wait, on := true, has := true, left := n.toNat, count := st.count } : Dm.Ds) := by rw [← hon]
   rw [hs] at HR
   clear h R hs hcast hon
   go_enter Tryz.func10, Tryz.ntmps10
   go_wp2_with fail
   refine HA.out.mono ?_
   rintro E w1 ⟨rfl, rfl⟩
   rw [hk]
   go_wp2
   go_ret
   exact ⟨rfl, HR.out⟩

section
variable {base : Nat} {w : World} {F : Nat → Prop}

theorem OwnR.type {e : TypeId} {r : List Cw} {v : Value} (h : OwnR e base w v r) {g : Nat} (hg : v.ownBlock = some g) : ∃ cs, w.heap[g]? = some (.cells cs e (0, 0)) := by
 rcases h.2 with ⟨rfl, _⟩ | ⟨g', cap, cur, rfl, _, hh, _⟩
 ·simp [Value.ownBlock] at hg
 ·simp [Value.ownBlock] at hg
  subst hg
  exact ⟨_, hh⟩

theorem OwnO.type {e : TypeId} {r : List Bm.Ov} {v : Value} (h : OwnO e base w v r) {g : Nat} (hg : v.ownBlock = some g) : ∃ cs, w.heap[g]? = some (.cells cs e (0, 0)) := by
 rcases h.2 with ⟨rfl, _⟩ | ⟨g', cap, cur, rfl, _, hh, _⟩
 ·simp [Value.ownBlock] at hg
 ·simp [Value.ownBlock] at hg
  subst hg
  exact ⟨_, hh⟩

theorem Pk.ty {p : Nat} {st : Dm.Ds} (h : Pk p F w st) : ∀ g, F g → ∃ cs t fr, w.heap[g]? = some (.cells cs t fr) ∧ (t = 70 ∨ t = 5 ∨ t = 143) := by
 obtain ⟨s, wv, rs, h, rfl⟩ := h
 rintro g (rfl | ⟨f, hf, hb⟩ | hb | ⟨r, hr, hb⟩)
 ·exact ⟨_, _, _, h.blk, .inl rfl⟩
 ·obtain ⟨cs, hc⟩ := (h.con.file f hf).type hb
  exact ⟨_, _, _, hc, .inr (.inl rfl)⟩
 ·obtain ⟨cs, hc⟩ := h.con.row.type hb
  exact ⟨_, _, _, hc, .inr (.inr rfl)⟩
 ·obtain ⟨_, cs, fr, hc⟩ := (h.con.raw r hr).2 g hb
  exact ⟨_, _, _, hc, .inr (.inl rfl)⟩

end

theorem IsO.out {F : Nat → Prop} {w w' : World} {v : Value} {l : List Bm.Ov} (h : IsO w v l) (ho : Out F w w') (hF : 0 < l.length → ∀ b, v.ownBlock = some b → ¬ F b) : IsO w' v l := by
 rcases h with h | ⟨ad, cap, hv, h1, h2, hc⟩
 ·exact .inl h
 ·refine .inr ⟨ad, cap, hv, h1, h2, fun j u hj => ?_⟩
  have hk := hc j u hj
  have hl : 0 < l.length := by
   rcases l with _ | ⟨x, l⟩
   ·simp [ocells] at hj
   ·simp
  have eb : (ad.add j).block = ad.block := by unfold Addr.add; split <;> rfl
  have hlt := World.block_lt_of_cell? _ _ hk
  rw [World.cell?_of_block (ho.block _ hlt (by rw [eb]; exact hF hl _ (by rw [hv]; rfl)))]
  exact hk

end Go.Proofs.YtmmfakpphjjjfaaGreat
