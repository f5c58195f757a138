/- Texts of one layer, one behind the other. -/
import Derived.Test.YtajlhdmnincehaaGreatDoorH1
import Derived.Test.YtajlhdmnincehaaGreatDoorH7
import Derived.Deep.RegionHeld3
import Derived.Shelf.Abstract
import Derived.RangeFuncNested
import Derived.RangeFuncBound
import Derived.RangeFuncCalls
import Derived.RangeFuncLeaves
import Derived.Shelf.RegionOpen
import Derived.WalkKit
import Derived.OwnWalkIn
import Derived.TacticsInMore
import Derived.LoopNIn
import Derived.LoopIn
/- Rows in memory: a clearing of cells, the rear of a row. No program. -/
namespace Go.Proofs.YtajlhdmnincehaaGreatDoor
open Go.RowKit
set_option linter.unusedVariables false

theorem setCells_grown (g : Nat) : ∀ (vs : List Value) (o : Nat) (w : World), w.grownBy (w.setCells g o vs) (some g)
  | [], _, w => World.grownBy.refl _ _
  | v :: r, o, w => grown_trans (grown_setCell w ⟨g, o, none⟩ v) (setCells_grown g r (o + 1) _)

theorem setCells_cells {g : Nat} {t : TypeId} {fr : Nat × Nat} : ∀ (vs : List Value) (o : Nat) (w : World) (cur : Array Value), w.heap[g]? = some (.cells cur t fr) → ∃ cur', (w.setCells g o vs).heap[g]? = some (.cells cur' t fr) ∧ cur'.size = cur.size ∧ ∀ j, j < o → cur'[j]? = cur[j]?
  | [], _, w, cur, h => ⟨cur, h, rfl, fun _ _ => rfl⟩
  | v :: r, o, w, cur, h => by
    obtain ⟨cur', h1, h2, h3⟩ := setCells_cells r (o + 1) (w.setCell ⟨g, o, none⟩ v) _ (set_cells h o v)
    refine ⟨cur', h1, by rw [h2]; simp, fun j hj => ?_⟩
    rw [h3 j (by omega), Array.getElem?_setIfInBounds, if_neg (by omega)]

/-- What a row holds stays where cells behind it are written. -/
theorem own_setCells {w : World} {base e size g n cap : Nat} {xs : List Value} (h : w.ownsRow base e size (.slice (some ⟨g, 0, none⟩) n cap) n xs) (o : Nat) (ho : n * size ≤ o) (vs : List Value) : (w.setCells g o vs).ownsRow base e size (.slice (some ⟨g, 0, none⟩) n cap) n xs := by
  refine ⟨h.1, ?_⟩
  rcases h.2 with ⟨h', _⟩ | ⟨g', cap', cur, h', hb, hg, hnc, hcm, hcs, htake⟩
  · simp at h'
  · simp only [Value.slice.injEq, Option.some.injEq, Addr.mk.injEq, and_true, true_and] at h'
    obtain ⟨rfl, rfl⟩ := h'
    obtain ⟨cur', h1, h2, h3⟩ := setCells_cells vs o w cur hg
    refine .inr ⟨g, cap, cur', rfl, hb, h1, hnc, hcm, by rw [h2, hcs], ?_⟩
    rw [← htake]
    apply List.ext_getElem?
    intro i
    rw [List.getElem?_take, List.getElem?_take]
    split
    · rw [Array.getElem?_toList, Array.getElem?_toList, h3 i (by omega)]
    · rfl

theorem run_clear_rows {P : Program} {n : Nat} (w : World) (t e ty : TypeId) (z : Value) (ht : P.underlying t = some (.slice e)) (hv : ∀ w, (zeroValue e).run P w = .ok z w) (h1 : ∀ u ∈ (Builtin.zeroCells z.cells n).toList, u.oneCell' = true) (b o c : Nat) (hn : 0 < n)
    (hc : ∀ j, j < (Builtin.zeroCells z.cells n).toList.length → (w.cell? ⟨b, o + j, none⟩).isSome = true) (hf : ∀ j, j < (Builtin.zeroCells z.cells n).toList.length → w.frozen? ⟨b, o + j, none⟩ = false) :
    (Builtin.clear_ #[t] ty #[.slice (some ⟨b, o, none⟩) n c]).run P w = .ok (.tuple #[]) (w.setCells b o (Builtin.zeroCells z.cells n).toList) := by
  have hst := run_storeCells_cells (P := P) b o (Builtin.zeroCells z.cells n).toList 0 w (by simpa using hc) (by simpa using hf) h1
  simp only [Nat.add_zero] at hst
  obtain ⟨m, rfl⟩ : ∃ m, n = m + 1 := ⟨n - 1, by omega⟩
  simp [Builtin.clear_, run_underlying ht, hv, hst]

theorem zeroCells_len (z : Array Value) (n : Nat) : (Builtin.zeroCells z n).toList.length = n * z.size := by
  rw [Array.length_toList, size_zeroCells]

theorem zeroCells_one {z : Array Value} (n : Nat) (hz : ∀ u ∈ z, u.oneCell' = true) : ∀ u ∈ (Builtin.zeroCells z n).toList, u.oneCell' = true := by
  intro u hu
  unfold Builtin.zeroCells at hu
  rw [Array.toList_map, Array.toList_range, List.mem_map] at hu
  obtain ⟨i, hi, rfl⟩ := hu
  rw [List.mem_range] at hi
  have h0 : 0 < z.size := Nat.pos_of_ne_zero fun h => by rw [h] at hi; simp at hi
  have hlt : i % z.size < z.size := Nat.mod_lt _ h0
  rw [getElem!_pos z _ hlt]
  exact hz _ (Array.getElem_mem hlt)

section
variable {α : Type} {P : Program} {w : World} {v : Value}

/-- 'v[p:]'. -/
theorem RowG.slice_l {f : α → List Value} {k : Nat} (hk : ∀ a, (f a).length = k) {l : List α} (h : RowG f w v l) {t : TypeId} (ht : P.underlying t = some (.slice (P.elem t))) (hs : ∀ wx, (sizeOf (P.elem t)).run P wx = .ok k wx) (p : Nat) (hp : p ≤ l.length) :
    ∃ vs, (∀ wx, (Instr.slice t v (some (.int .i64 p)) none none).run P wx = .ok vs wx) ∧ RowG f w vs (l.drop p) := by
  have hlen : (l.drop p).length = l.length - p := by rw [List.length_drop]
  rcases h with ⟨hv, hz⟩ | ⟨ad, cap, hv, h1, h2, hc⟩
  · subst hz hv
    obtain rfl : p = 0 := by simpa using hp
    refine ⟨.slice none 0 0, fun wx => ?_, RowG.nil _ _⟩
    rw [run_slice_l wx t none 0 0 ht .i64 _ (by omega) (by omega)]
    simp [Result.andThen, sliced, hs]
  · subst hv
    by_cases hcl : cap = p
    · refine ⟨.slice (some ad) (l.length - p) (cap - p), fun wx => ?_, .inr ⟨ad, cap - p, by rw [hlen], by rw [hlen]; omega, by omega, fun j u hj => ?_⟩⟩
      · rw [run_slice_l wx t (some ad) l.length cap ht .i64 _ (by omega) (by omega), hs]
        simp [Result.andThen, sliced, hcl]
      · rw [List.drop_eq_nil_of_le (by omega)] at hj
        simp [gcells] at hj
    · refine ⟨.slice (some (ad.add (p * k))) (l.length - p) (cap - p), fun wx => ?_, .inr ⟨ad.add (p * k), cap - p, by rw [hlen], by rw [hlen]; omega, by omega, fun j u hj => ?_⟩⟩
      · rw [run_slice_l wx t (some ad) l.length cap ht .i64 _ (by omega) (by omega), hs]
        simp [Result.andThen, sliced, hcl]
      · have e : (ad.add (p * k)).add j = ad.add (p * k + j) := by
          unfold Addr.add
          by_cases h0 : p * k = 0 <;> by_cases h3 : j = 0 <;> simp [h0, h3, Nat.add_assoc]
        rw [gcells_drop hk, List.getElem?_drop] at hj
        rw [e]
        exact hc _ u hj

end

end Go.Proofs.YtajlhdmnincehaaGreatDoor

/- The program's disk: slices.Delete of raw steps; what a disk holds behind a change of a file, of its row. -/
namespace Go.Proofs.YtajlhdmnincehaaGreatDoor
open Go.RowKit
set_option linter.unusedVariables false

theorem stepc_one (rs : List Rv) (h : ∀ r ∈ rs, ∃ a n c, r.v = .slice a n c) : ∀ u ∈ gcells stepc rs, u.oneCell' = true := by
  induction rs with
  | nil => simp [gcells]
  | cons r l ih =>
    intro u hu
    rw [gcells, List.mem_append] at hu
    rcases hu with hu | hu
    · obtain ⟨a, n, c, hv⟩ := h r (by simp)
      simp only [stepc, List.mem_cons, List.not_mem_nil, or_false] at hu
      rcases hu with rfl | rfl | rfl | rfl
      · rfl
      · rfl
      · rw [hv]; rfl
      · rfl
    · exact ih (fun r hr => h r (by simp [hr])) u hu

theorem Tryz.info133 : (Tryz.prog.info? 133).map (fun i => (i.zero, i.size, i.bytes)) = some (some (.agg #[.int .i64 0, .int .i64 0, .slice none 0 0, .int .i64 0]), 4, 48) := by kernel_rfl

theorem Tryz.elemD : Tryz.prog.underlying 65 = some (.slice (Tryz.prog.elem 65)) := by kernel_rfl

theorem Tryz.sizeD (wx : World) : (sizeOf (Tryz.prog.elem 65)).run Tryz.prog wx = .ok 4 wx := by kernel_rfl

theorem Tryz.zeroS (wx : World) : (zeroValue 133).run Tryz.prog wx = .ok (.agg #[.int .i64 0, .int .i64 0, .slice none 0 0, .int .i64 0]) wx := by kernel_rfl

set_option maxHeartbeats 4000000 in
theorem del_any (w : World) (wv : Value) (rs : List Rv) (n : Nat) (hrow : OwnG stepc 4 133 0 w wv rs) (hsl : ∀ r ∈ rs, ∃ a n c, r.v = .slice a n c) (hn : n ≤ rs.length) (hlen : rs.length ≤ 1000000) :
    Calls Tryz.prog 216 #[wv, .int .i64 0, .int .i64 n] w fun E w' => ∃ v', E = .returned v' ∧ OwnG stepc 4 133 0 w' v' (rs.drop n) ∧ Out (fun g => wv.ownBlock = some g) w w' ∧ v'.ownBlock = wv.ownBlock := by
  by_cases h0 : n = 0
  · subst h0
    obtain ⟨ao, cap, hv, hcap, hcm⟩ := hrow.row.shape
    subst hv
    have R := hide (show OwnG stepc 4 133 0 w (.slice ao rs.length cap) (rs.drop 0) from hrow)
    clear hrow hsl
    go_enter Tryz.func216, Tryz.ntmps216
    go_wp2
    all_goals (go_ret; exact ⟨_, rfl, R.out, Out.refl _ _, rfl⟩)
  · obtain ⟨L, hL⟩ : ∃ L, L = rs.length := ⟨_, rfl⟩
    obtain ⟨m, hm⟩ : ∃ m, L = n + m := ⟨L - n, by omega⟩
    obtain ⟨g, cap, hv, hcap, hcm, hcell, hfroz⟩ : ∃ g cap, wv = .slice (some ⟨g, 0, none⟩) L cap ∧ L ≤ cap ∧ cap ≤ maxLen ∧ (∀ j, j < cap * 4 → (w.cell? ⟨g, j, none⟩).isSome = true) ∧ ∀ j, w.frozen? ⟨g, j, none⟩ = false := by
      rcases hrow.2 with ⟨_, h⟩ | ⟨g, cap, cur, hv, _, hg, hc, hm', hs, _⟩
      · omega
      · refine ⟨g, cap, by rw [hL]; exact hv, by rw [hL]; exact hc, hm', fun j hj => ?_, fun j => blk_froz hg j⟩
        rw [blk_cell hg j (Array.getElem?_eq_getElem (by omega : j < cur.size))]
        rfl
    have hdl : (rs.drop n).length = m := by rw [List.length_drop]; omega
    obtain ⟨i, hi, hz, hsize, hby⟩ := info_parts Tryz.info133
    obtain ⟨vs, hs3, hrw⟩ := hrow.row.slice_l stepc_len Tryz.elemD Tryz.sizeD n (by omega)
    obtain ⟨avs, cvs, hvs, hcv, hcells⟩ : ∃ ad c, vs = .slice (some ad) m c ∧ m ≤ c ∧ ∀ j u, (gcells stepc (rs.drop n))[j]? = some u → w.cell? (ad.add j) = some u := by
      rcases hrw with ⟨h, h'⟩ | ⟨ad, c, h1, h2, _, h4⟩
      · exfalso
        have := hs3 w
        rw [hv, run_slice_l w 65 (some ⟨g, 0, none⟩) L cap Tryz.elemD .i64 _ (by omega) (by omega), Tryz.sizeD, h] at this
        simp [Result.andThen, sliced] at this
        split at this <;> simp at this
      · exact ⟨ad, c, by rw [h1, hdl], by omega, h4⟩
    have own0 : w.ownsRow 0 133 4 (.slice (some ⟨g, 0, none⟩) 0 cap) 0 [] := by
      have h1 : w.ownsRow 0 133 4 wv L (gcells stepc rs) := by rw [hL]; exact hrow
      rw [hv] at h1
      simpa using own_cut h1 0 (by omega)
    have hrun : ∃ w1, (∀ ty, (Builtin.append_ #[65, 65] ty #[.slice (some ⟨g, 0, none⟩) 0 cap, .slice (some avs) m cvs]).run Tryz.prog w.drew = .ok (.slice (some ⟨g, 0, none⟩) m cap) w1) ∧ w1.ownsRow 0 133 4 (.slice (some ⟨g, 0, none⟩) m cap) m (gcells stepc (rs.drop n)) ∧ w.drew.grownBy w1 (some g) := by
      have key := fun ty => run_append_fits (P := Tryz.prog) w.drew 0 65 ty 133 i 4 Tryz.underlying65 hi hsize g 0 cap [] own0 avs m cvs (gcells stepc (rs.drop n)) (by rw [gcells_len stepc_len, hdl]) hcells (stepc_one _ fun r hr => hsl r (List.mem_of_mem_drop hr)) (by omega)
      obtain ⟨w1, h1, h2, h3⟩ := key 0
      rw [Nat.zero_add] at h1 h2
      exact ⟨w1, fun ty => h1, h2, h3⟩
    obtain ⟨w1, hrun, own1, gr1⟩ := hrun
    obtain ⟨cur1, hg1, hs1⟩ : ∃ cur, w1.heap[g]? = some (.cells cur 133 (0, 0)) ∧ cur.size = cap * 4 := by
      rcases own1.2 with ⟨h, _⟩ | ⟨g', cap', cur, h, _, hg, _, _, hs, _⟩
      · simp at h
      · simp only [Value.slice.injEq, Option.some.injEq, Addr.mk.injEq, and_true, true_and] at h
        obtain ⟨rfl, rfl⟩ := h
        exact ⟨cur, hg, hs⟩
    have hzl : (Builtin.zeroCells (Value.agg #[.int .i64 0, .int .i64 0, .slice none 0 0, .int .i64 0]).cells n).toList.length = n * 4 := by rw [zeroCells_len]; rfl
    obtain ⟨w2, hw2⟩ : ∃ w2, w2 = w1.setCells g (m * 4) (Builtin.zeroCells (Value.agg #[.int .i64 0, .int .i64 0, .slice none 0 0, .int .i64 0]).cells n).toList := ⟨_, rfl⟩
    have hcl : ∀ ty, (Builtin.clear_ #[65] ty #[.slice (some ⟨g, m * 4, none⟩) n (cap - m)]).run Tryz.prog w1 = .ok (.tuple #[]) w2 := fun ty => by
      rw [hw2]
      exact run_clear_rows w1 _ _ ty _ Tryz.underlying65 Tryz.zeroS (zeroCells_one n (by decide)) g (m * 4) (cap - m) (by omega) (fun j hj => by rw [hzl] at hj; rw [blk_cell hg1 _ (Array.getElem?_eq_getElem (by omega : m * 4 + j < cur1.size))]; rfl) (fun j _ => blk_froz hg1 _)
    have R : Hid (OwnG stepc 4 133 0 w2 (.slice (some ⟨g, 0, none⟩) m cap) (rs.drop n)) := hide (by
      unfold OwnG
      rw [hdl, hw2]
      exact own_setCells own1 _ (Nat.le_refl _) _)
    have O : Hid (Out (fun b => (Value.slice (some ⟨g, 0, none⟩) L cap).ownBlock = some b) w w2) := hide (by
      rw [hw2]
      exact Out.of_grown (grown_trans (grown_trans (grown_drewN w 1 _) gr1) (setCells_grown g _ (m * 4) w1)) fun b hb => hb)
    obtain ⟨x1, hsA⟩ : ∃ x, ∀ wx, (Instr.slice 65 wv (some (.int .i64 0)) (some (.int .i64 n)) (some (.int .i64 L))).run Tryz.prog wx = .ok x wx := by
      refine ⟨sliced (some ⟨g, 0, none⟩) 0 n L 4, fun wx => ?_⟩
      rw [hv, run_slice_lhm wx 65 (some ⟨g, 0, none⟩) L cap Tryz.elemD .i64 .i64 .i64 _ _ _ (by omega) (by omega) (by omega) (by omega), Tryz.sizeD]
      simp [Result.andThen]
    have hs2 : ∀ wx, (Instr.slice 65 wv none (some (.int .i64 0)) none).run Tryz.prog wx = .ok (.slice (some ⟨g, 0, none⟩) 0 cap) wx := fun wx => by
      rw [hv, run_slice_h wx 65 (some ⟨g, 0, none⟩) L cap Tryz.elemD .i64 _ (by omega) (by omega), Tryz.sizeD]
      simp [Result.andThen, sliced, Addr.add]
    have hlr : ∀ ty wx, (Builtin.len_ #[65] ty #[wv]).run Tryz.prog wx = .ok (.int .i64 L) wx := fun ty wx => by
      rw [hv]
      simp [Builtin.len_, run_underlying Tryz.underlying65, goInt]
    have hob : wv.ownBlock = some g := by rw [hv]; rfl
    rw [← hv] at O
    rw [hvs] at hs3
    have hmc : ¬ cap = m := by omega
    have hmL : (m : Int) ≤ L := by omega
    have hLc : (L : Int) ≤ cap := by omega
    have hLm : L - m = n := by omega
    rw [← hLm] at hcl
    have hne : ((0 : Int) == (n : Int)) = false := by simp; omega
    have HB := hide hob
    have HR := hide hrun
    clear hrun hw2 hzl hg1 hs1 own1 gr1 own0 hrw hcells hcell hfroz hrow hsl hi hz hsize hby hvs hdl hL hm hv hLm h0 hn hlen hcap hcm hob hcv
    go_enter Tryz.func216, Tryz.ntmps216
    go_wp2
    go_region_law (refine step_append_at rfl (.tmp 22) (.tmp 25) 65 rfl (.slice (some ⟨g, 0, none⟩) 0 cap) (.slice (some avs) m cvs) (by first | rfl | (simp [Act.eval]; done)) (by first | rfl | (simp [Act.eval]; done)) (R := fun v' w' => v' = .slice (some ⟨g, 0, none⟩) m cap ∧ w' = w1) (fun ty => ⟨_, _, HR.out ty, rfl, rfl⟩) ?_; rintro _ _ ⟨rfl, rfl⟩)
    all_goals (go_wp2; go_ret; exact ⟨_, rfl, R.out, O.out, HB.out.symm⟩)

section
variable {p : Nat} {F G : Nat → Prop} {w w' w1 w2 : World} {st st' : Dm.Ds} {sure sure' : Nat → List Int} {wait wait' : List Dm.Rw} {s s' : Nat → Value} {wv wv' : Value} {rs rs' : List Rv}

def sup (s : Nat → Value) (f : Nat) (v : Value) : Nat → Value := fun j => if j = f then v else s j

/-- One file's slice is another one now. -/
theorem Con.files (h : Con w sure wait s wv rs) {f : Nat} (hf : f < 4) {v : Value} {bs' : List Int} (hown : Own .u8 5 0 w' v bs') (ho : Out (fun g => (s f).ownBlock = some g) w w') (hat : ∀ b, v.ownBlock = some b → (s f).ownBlock = some b ∨ w.heap.size ≤ b) :
    Con w' (Dm.upd sure f bs') wait (sup s f v) wv rs := by
  have hlt : ∀ j, j < 4 → ∀ b, (s j).ownBlock = some b → b < w.heap.size := fun j hj b hb => ((h.file j hj).block b hb).2
  have hrl : ∀ r ∈ rs, ∀ b, r.v.ownBlock = some b → b < w.heap.size := fun r hr b hb => by
    obtain ⟨_, cs, fr, hc⟩ := (h.raw r hr).2 b hb
    exact blk_lt hc
  have nv : ∀ j, j < 4 → j ≠ f → ∀ b, v.ownBlock = some b → (s j).ownBlock ≠ some b := fun j hj hjf b hb e => by
    rcases hat b hb with h1 | h1
    · exact h.apart f j hf hj (Ne.symm hjf) b h1 e
    · have := hlt j hj b e; omega
  refine ⟨fun j hj => ?_, fun j k hj hk hjk b hb => ?_, ?_, fun r hr => ?_, fun r hr j hj b hb => ?_, h.wait⟩
  · by_cases e : j = f
    · subst e; simp only [sup, Dm.upd, if_true]; exact hown
    · simp only [sup, Dm.upd, if_neg e]
      exact (h.file j hj).agree fun b hb => ho.block b (hlt j hj b hb) fun h1 => h.apart j f hj hf e b hb h1
  · unfold sup at hb ⊢
    by_cases e : j = f
    · rw [if_pos e] at hb
      rw [if_neg (fun h1 => hjk (e.trans h1.symm))]
      exact nv k hk (fun h1 => hjk (e.trans h1.symm)) b hb
    · rw [if_neg e] at hb
      by_cases e2 : k = f
      · rw [if_pos e2]
        exact fun h1 => nv j hj e b h1 hb
      · rw [if_neg e2]
        exact h.apart j k hj hk hjk b hb
  · refine h.row.agree fun b hb => ho.block b (h.row.lt b hb).2 fun h1 => ?_
    obtain ⟨cs, hc⟩ := h.row.type hb
    obtain ⟨cs', hc'⟩ := (h.file f hf).type h1
    rw [hc] at hc'
    simp at hc'
  · exact (h.raw r hr).agree fun b hb => ho.block b (hrl r hr b hb) fun h1 => h.rawa r hr f hf b hb h1
  · unfold sup
    by_cases e : j = f
    · rw [if_pos e]
      intro h1
      rcases hat b h1 with h2 | h2
      · exact h.rawa r hr f hf b hb h2
      · have := hrl r hr b hb; omega
    · rw [if_neg e]
      exact h.rawa r hr j hj b hb

theorem FB.files {f : Nat} (hf : f < 4) {v : Value} (hat : ∀ b, v.ownBlock = some b → (s f).ownBlock = some b ∨ w.heap.size ≤ b) : ∀ g, FB p (sup s f v) wv rs g → FB p s wv rs g ∨ w.heap.size ≤ g := by
  rintro g (h | ⟨j, hj, h⟩ | h | h)
  · exact .inl (.inl h)
  · unfold sup at h
    by_cases e : j = f
    · rw [if_pos e] at h
      rcases hat g h with h1 | h1
      · exact .inl (.inr (.inl ⟨f, hf, h1⟩))
      · exact .inr h1
    · rw [if_neg e] at h
      exact .inl (.inr (.inl ⟨j, hj, h⟩))
  · exact .inl (.inr (.inr (.inl h)))
  · exact .inl (.inr (.inr (.inr h)))

/-- The row of raw steps is another one now. -/
theorem Con.rows (h : Con w sure wait s wv rs) (hrow : OwnG stepc 4 133 0 w' wv' rs') (ho : Out (fun g => wv.ownBlock = some g) w w')
    (hraw : ∀ r ∈ rs', Byt (fun _ => True) w r.v r.bytes ∧ ∀ f, f < 4 → ∀ b, r.v.ownBlock = some b → (s f).ownBlock ≠ some b) (hw : rs'.map Rv.r = wait') : Con w' sure wait' s wv' rs' := by
  refine ⟨fun j hj => ?_, h.apart, hrow, fun r hr => ?_, fun r hr => (hraw r hr).2, hw⟩
  · refine (h.file j hj).agree fun b hb => ho.block b ((h.file j hj).block b hb).2 fun h1 => ?_
    obtain ⟨cs, hc⟩ := h.row.type h1
    obtain ⟨cs', hc'⟩ := (h.file j hj).type hb
    rw [hc] at hc'
    simp at hc'
  · refine (hraw r hr).1.agree fun b hb => ?_
    obtain ⟨_, cs, fr, hc⟩ := (hraw r hr).1.2 b hb
    refine ho.block b (blk_lt hc) fun h1 => ?_
    obtain ⟨cs', hc'⟩ := h.row.type h1
    rw [hc] at hc'
    simp at hc'

end

end Go.Proofs.YtajlhdmnincehaaGreatDoor

/- The program's disk: settle. -/
namespace Go.Proofs.YtajlhdmnincehaaGreatDoor
open Go.RowKit Go.Shelf
set_option linter.unusedVariables false

theorem pcells_sup (s : Nat → Value) (wv : Value) (on : Bool) (fuse count : Int) (f : Nat) (hf : f < 4) (v : Value) : (pcells s wv on fuse count).setIfInBounds (3 + f) v = pcells (sup s f v) wv on fuse count := by
  rcases (show f = 0 ∨ f = 1 ∨ f = 2 ∨ f = 3 by omega) with rfl | rfl | rfl | rfl <;> simp [pcells, sup]

theorem dof_next {l : List Dm.Rw} {k : Nat} {r : Dm.Rw} (h : l[k]? = some r) (s : Nat → List Int) : Dm.dof s (l.take (k + 1)) = Dm.one (Dm.dof s (l.take k)) r := by rw [wtake_next h, Dm.dof_snoc]

theorem dof_len (s : Nat → List Int) (l : List Dm.Rw) (f : Nat) : (Dm.dof s l f).length ≤ (s f).length + Dm.bulk l := by
  rw [← Dm.hold_dof]
  exact Dm.hold_len l (s f) f

theorem OwnG.slice_h {P : Program} {α : Type} {c : α → List Value} {k e base : Nat} {w : World} {l : List α} {ao : Option Addr} {cap : Nat} (h : OwnG c k e base w (.slice ao l.length cap) l) {t : TypeId} (ht : P.underlying t = some (.slice (P.elem t))) (hs : ∀ wx, (sizeOf (P.elem t)).run P wx = .ok k wx) (n : Nat) (hn : n ≤ l.length) :
    ∀ wx, (Instr.slice t (.slice ao l.length cap) none (some (.int .i64 n)) none).run P wx = .ok (.slice ao n cap) wx := by
  intro wx
  rcases h.2 with ⟨hv, hz⟩ | ⟨g, cap', cur, hv, _, _, hc, _⟩
  · simp only [Value.slice.injEq] at hv
    obtain ⟨rfl, _, rfl⟩ := hv
    rw [run_slice_h wx t none l.length 0 ht .i64 _ (by omega) (by omega), hs]
    simp [Result.andThen, sliced]
  · simp only [Value.slice.injEq, true_and] at hv
    obtain ⟨rfl, rfl⟩ := hv
    rw [run_slice_h wx t _ l.length cap ht .i64 _ (by omega) (by omega), hs]
    simp [Result.andThen, sliced, Addr.add]

/-- Between two rounds of settle. -/
def SInv (p : Nat) (w : World) (st : Dm.Ds) (s : Nat → Value) (wv : Value) (rs : List Rv) (k : Nat) (wr : World) : Prop :=
  ∃ s', wr.heap[p]? = some (.cells (pcells s' wv st.on (pfuse st) st.count) 67 (0, 0)) ∧ Con wr (Dm.dof st.sure (st.wait.take k)) st.wait s' wv rs ∧ Out (FB p s wv rs) w wr ∧ ∀ g, FB p s' wv rs g → FB p s wv rs g ∨ w.heap.size ≤ g

theorem SInv.next {p : Nat} {w : World} {st : Dm.Ds} {s s' : Nat → Value} {wv : Value} {rs : List Rv} {k : Nat} {wr w2 : World} {r : Rv} {v : Value}
    (hB : wr.heap[p]? = some (.cells (pcells s' wv st.on (pfuse st) st.count) 67 (0, 0))) (hC : Con wr (Dm.dof st.sure (st.wait.take k)) st.wait s' wv rs) (hO : Out (FB p s wv rs) w wr) (hF : ∀ g, FB p s' wv rs g → FB p s wv rs g ∨ w.heap.size ≤ g)
    (hk : st.wait[k]? = some r.r) (hf : r.file < 4) (ho : Out (fun g => (s' r.file).ownBlock = some g) wr w2) (hown : Own .u8 5 0 w2 v (Dm.wth (Dm.dof st.sure (st.wait.take k) r.file) r.r)) (hat : ∀ b, v.ownBlock = some b → (s' r.file).ownBlock = some b ∨ wr.heap.size ≤ b) :
    SInv p w st s wv rs (k + 1) (w2.setCell ⟨p, 3 + r.file, none⟩ v) := by
  have hB2 : w2.heap[p]? = some (.cells (pcells s' wv st.on (pfuse st) st.count) 67 (0, 0)) := (ho.block p (blk_lt hB) fun h => (hC.ne hB (by decide) (by decide)).1 r.file hf p h rfl).trans hB
  have hC2 := hC.files hf hown ho hat
  refine ⟨sup s' r.file v, by rw [set_cells hB2, pcells_sup _ _ _ _ _ _ hf], ?_, ?_, fun g hg => ?_⟩
  · have e : Dm.dof st.sure (st.wait.take (k + 1)) = Dm.upd (Dm.dof st.sure (st.wait.take k)) r.file (Dm.wth (Dm.dof st.sure (st.wait.take k) r.file) r.r) := by rw [dof_next hk]; rfl
    rw [e]
    exact hC2.but hB2 (by decide) (by decide) fun b hb _ => Below.heap_setCell _ _ _ _ hb
  · have h1 : Out (FB p s wv rs) w w2 := hO.trans ho fun g hg => hF g (.inr (.inl ⟨_, hf, hg⟩))
    exact h1.trans (Out.of_grown (F := fun g => g = p) (grown_setCell w2 ⟨p, 3 + r.file, none⟩ v) fun g hg => by simp at hg; exact hg.symm) fun g hg => .inl (.inl hg)
  · rcases FB.files hf hat g hg with h1 | h1
    · exact hF g h1
    · exact .inr (Nat.le_trans hO.size h1)

theorem Tryz.enters215 : ∀ args w, (callFunc 215 args).run Tryz.prog w = .ok (.enter 215 args) w := enters_of Tryz.func215 (by kernel_rfl) rfl

set_option maxRecDepth 20000 in
set_option maxHeartbeats 8000000 in
theorem settle_any (p : Nat) (F : Nat → Prop) (w : World) (st : Dm.Ds) (n : Nat) (h : Pk p F w st) (hn : n ≤ st.wait.length) (hsz : ∀ f, (st.sure f).length + Dm.bulk st.wait ≤ 140737488355000) (hw : st.wait.length ≤ 1000000) :
    Calls Tryz.prog 154 #[.pointer (some ⟨p, 0, none⟩), .int .i64 n] w fun E w' => (∃ v, E = .returned v) ∧ PStep p F w w' { st with sure := Dm.dof st.sure (st.wait.take n), wait := st.wait.drop n } := by
  obtain ⟨s, wv, rs, h, rfl⟩ := h
  have hlr := h.con.len
  have c7 := h.c7
  obtain ⟨ao, cap, hv, hcap, hcm⟩ := h.con.row.row.shape
  have hsl : ∀ wx, (Instr.slice 65 wv none (some (.int .i64 n)) none).run Tryz.prog wx = .ok (.slice ao n cap) wx := by
    have := h.con.row
    rw [hv] at this ⊢
    exact this.slice_h Tryz.elemD Tryz.sizeD n (by omega)
  have hao : 0 < rs.length → ∃ b, ao = some ⟨b, 0, none⟩ ∧ wv.ownBlock = some b := by
    intro h0
    rcases h.con.row.2 with ⟨_, h1⟩ | ⟨g, cap', cur, h1, _⟩
    · omega
    · rw [hv] at h1
      simp only [Value.slice.injEq, true_and] at h1
      exact ⟨g, h1.1, by rw [hv, h1.1]; rfl⟩
  have H := hide h
  have HAO := hide hao
  have HLR := hide hlr
  have hnL : n ≤ rs.length := by omega
  have I0 : Hid (SInv p w st s wv rs 0 w) := hide ⟨s, h.blk, by simpa [Dm.dof] using h.con, Out.refl _ _, fun g hg => .inl hg⟩
  clear h hao hlr hv
  go_enter Tryz.func154, Tryz.ntmps154
  go_wp2
  go_loopw [13] (fun iv wr => ∃ k : Nat, k ≤ n ∧ iv = .int .i64 k ∧ Hid (SInv p w st s wv rs k wr)) (fun iv _ => n - (intOf iv).toNat)
  case atStart => exact ⟨0, by omega, rfl, I0⟩
  case round =>
    obtain ⟨k, hk, rfl, I⟩ := hrel
    obtain ⟨s', hB, hC, hO, hF⟩ := I.out
    have HO := hide hO
    have HF := hide hF
    have HBp := hide hB
    by_cases hlt : k < n
    · obtain ⟨g, rfl, hg⟩ := HAO.out (by omega)
      obtain ⟨r, hr⟩ : ∃ r, rs[k]? = some r := ⟨rs[k], by rw [List.getElem?_eq_getElem]⟩
      have hcell := fun j u hj => hC.row.cells hg (k * 4 + j) u (gcells_at stepc_len rs k r hr j u hj)
      have e0 : wr.cell? ⟨g, k * 4, none⟩ = some (.int .i64 (kof r)) := by have := hcell 0 _ rfl; rwa [add_at, Nat.zero_add] at this
      have e1 : wr.cell? ⟨g, k * 4 + 1, none⟩ = some (.int .i64 r.file) := by have := hcell 1 _ rfl; rwa [add_at, Nat.zero_add] at this
      have e2 : wr.cell? ⟨g, k * 4 + 2, none⟩ = some r.v := by have := hcell 2 _ rfl; rwa [add_at, Nat.zero_add] at this
      have e3 : wr.cell? ⟨g, k * 4 + 3, none⟩ = some (.int .i64 r.to) := by have := hcell 3 _ rfl; rwa [add_at, Nat.zero_add] at this
      obtain ⟨V, hV, hV2, szV, belV, bV, x0, x1, x2, x3⟩ := new_four wr 133 (.int .i64 0) (.int .i64 0) (.slice none 0 0) (.int .i64 0) (.int .i64 (kof r)) (.int .i64 r.file) r.v (.int .i64 r.to)
      have hst : st.wait[k]? = some r.r := by rw [← H.out.con.wait, List.getElem?_map, hr]; rfl
      have hfit := Dm.valid_at H.out.ok hst
      have hf : r.file < 4 := hfit.1
      have hbl := bulk_at hst
      have hdl := dof_len st.sure (st.wait.take k) r.file
      have hszf := hsz r.file
      obtain ⟨ar, cr, hrv, _, _⟩ := (hC.raw r (List.mem_of_getElem? hr)).1.shape
      have ir := ((hC.raw r (List.mem_of_getElem? hr)).1).below belV
      have cfv : V.cell? ⟨p, 3 + r.file, none⟩ = some (s' r.file) := (belV.cell (p := ⟨p, 3 + r.file, none⟩) (blk_lt hB)).trans (pc_f (cs := #[]) hB r.file hf)
      obtain ⟨af, nf, cpf, hsf⟩ := (hC.file r.file hf).is.form
      have hne : ∀ b, (s' r.file).ownBlock = some b → b < wr.heap.size := fun b hb => ((hC.file r.file hf).block b hb).2
      have BI : Hid (Calls Tryz.prog 215 #[.agg #[.int .i64 (kof r), .int .i64 r.file, r.v, .int .i64 r.to], s' r.file] V.drew fun E w2 => ∃ v2, E = .returned v2 ∧ (SInv p w st s wv rs (k + 1) (w2.setCell ⟨p, 3 + r.file, none⟩ v2) ∧ (w2.cell? ⟨wr.heap.size, 0, none⟩ = some (.int .i64 (kof r)) ∧ w2.cell? ⟨wr.heap.size, 1, none⟩ = some (.int .i64 r.file) ∧ w2.cell? ⟨wr.heap.size, 2, none⟩ = some r.v ∧ w2.cell? ⟨wr.heap.size, 3, none⟩ = some (.int .i64 r.to)) ∧ w2.cell? ⟨p, 3 + r.file, none⟩ = some (s' r.file) ∧ w2.frozen? ⟨p, 3 + r.file, none⟩ = false ∧ ∃ a n c, v2 = .slice a n c)) := hide (by
        refine (behind_any 0 (s' r.file) _ r V.drew (((hC.file r.file hf).below belV).drewN 1) (Nat.zero_le _) (ir.drewN 1) (fun hc => hfit.2.1 hc) (by have : r.r.bytes = r.bytes := rfl; rw [this] at hbl; omega)).mono ?_
        rintro E w2 ⟨v2, rfl, own2, out2, at2⟩
        have out2' : Out (fun g => (s' r.file).ownBlock = some g) wr w2 := (Out.of_below (F := fun g => (s' r.file).ownBlock = some g) ((belV).trans (below_drewN (Below.refl _ _) 1))).trans out2 fun g hg => .inl hg
        have hb2 : w2.heap[wr.heap.size]? = some (.cells #[.int .i64 (kof r), .int .i64 r.file, r.v, .int .i64 r.to] 133 (0, 0)) := (out2.block wr.heap.size (show wr.heap.size < V.heap.size by omega) fun h => by have := hne _ h; omega).trans bV
        have hp2 : w2.heap[p]? = some (.cells (pcells s' wv st.on (pfuse st) st.count) 67 (0, 0)) := (out2'.block p (blk_lt hB) fun h => (hC.ne hB (by decide) (by decide)).1 r.file hf p h rfl).trans hB
        refine ⟨v2, rfl, SInv.next hB hC HO.out HF.out hst hf out2' own2 (fun b hb => ?_), ⟨blk_cell hb2 0 rfl, blk_cell hb2 1 rfl, blk_cell hb2 2 rfl, blk_cell hb2 3 rfl⟩, pc_f (cs := #[]) hp2 r.file hf, blk_froz hp2 _, own2.is.form⟩
        rcases at2 b hb with h1 | h1
        · exact .inl h1
        · exact .inr (by have h2 : V.drew.heap.size = V.heap.size := rfl; omega))
      have hlt' : (k : Int) < n := by omega
      have hk0 : (0 : Int) ≤ (k : Int) := by omega
      have hf0 : (0 : Int) ≤ (r.file : Int) := by omega
      have hf4 : (r.file : Int) < 4 := by omega
      have hp : p < wr.heap.size := blk_lt hB
      rw [hrv] at e2 hV hV2 x2 BI
      rw [hsf] at cfv BI
      clear hcell hr hst hfit hbl hdl hszf ir hne hC hO hF hB bV I hrv hsf hg
      go_wp2_with fail
      go_region_law (refine call_at rfl 215 #[.tmp 20, .tmp 27] #[133, 28] rfl Tryz.enters215 #[.agg #[.int .i64 (kof r), .int .i64 r.file, .slice ar r.bytes.length cr, .int .i64 r.to], .slice af nf cpf] (by first | rfl | (simp [Act.eval]; done)) BI.out ?_; rintro v2 w2 ⟨J, ⟨y0, y1, y2, y3⟩, cp2, fp2, a2, n2, c2, rfl⟩; have J := hide J)
      all_goals
        go_wp2
        go_roundw
        case rel => exact ⟨k + 1, by omega, by go_num, J⟩
        case measure => simp [intOf]; omega
    · obtain rfl : k = n := by omega
      have c7r : wr.cell? ⟨p, 7, none⟩ = some wv := blk_cell hB 7 rfl
      have hlt' : ¬ (k : Int) < k := by omega
      have DI : Hid (Calls Tryz.prog 216 #[wv, .int .i64 0, .int .i64 k] wr fun E w4 => ∃ v4, E = .returned v4 ∧ (PStep p (FB p s wv rs) w (w4.setCell ⟨p, 7, none⟩ v4) { st with sure := Dm.dof st.sure (st.wait.take k), wait := st.wait.drop k } ∧ w4.cell? ⟨p, 7, none⟩ = some wv ∧ w4.frozen? ⟨p, 7, none⟩ = false ∧ ∃ a n c, v4 = .slice a n c)) := hide (by
        refine (del_any wr wv rs k hC.row (fun r hr => (hC.raw r hr).1.form) hnL (by have := HLR.out; omega)).mono ?_
        rintro E w4 ⟨v4, rfl, row4, out4, ob4⟩
        have hC4 : Con w4 (Dm.dof st.sure (st.wait.take k)) (st.wait.drop k) s' v4 (rs.drop k) := hC.rows row4 out4 (fun r hr => ⟨hC.raw r (List.mem_of_mem_drop hr), hC.rawa r (List.mem_of_mem_drop hr)⟩) (by rw [← hC.wait, List.map_drop])
        have hp4 : w4.heap[p]? = some (.cells (pcells s' wv st.on (pfuse st) st.count) 67 (0, 0)) := (out4.block p (blk_lt hB) fun h => (hC.ne hB (by decide) (by decide)).2.1 p h rfl).trans hB
        have hok : Dm.valid (Dm.dof st.sure (st.wait.take k)) (st.wait.drop k) := by
          have := H.out.ok
          unfold Dm.Ok at this
          rw [← List.take_append_drop k st.wait, Dm.valid_app] at this
          exact this.2
        obtain ⟨R1, R2⟩ := PkV.put (st' := { st with sure := Dm.dof st.sure (st.wait.take k), wait := st.wait.drop k }) (s' := s') (wv' := v4) (rs' := rs.drop k) hp4 7 v4 rfl hC4 hok
        refine ⟨v4, rfl, ⟨_, ⟨s', v4, rs.drop k, R1, rfl⟩, ?_, ?_⟩, blk_cell hp4 7 rfl, blk_froz hp4 7, ?_⟩
        · have h1 : Out (FB p s wv rs) w w4 := hO.trans out4 fun g hg => hF g (.inr (.inr (.inl hg)))
          exact h1.trans R2 fun g hg => .inl (.inl hg)
        · rintro g (h1 | h1 | h1 | ⟨r, hr, h1⟩)
          · exact hF g (.inl h1)
          · exact hF g (.inr (.inl h1))
          · exact hF g (.inr (.inr (.inl (by rw [← ob4]; exact h1))))
          · exact hF g (.inr (.inr (.inr ⟨r, List.mem_of_mem_drop hr, h1⟩)))
        · obtain ⟨a, c, hv, _⟩ := row4.row.shape
          exact ⟨a, _, c, hv⟩)
      clear hC hO hF hB I HO HF HBp
      go_wp2_with fail
      refine DI.out.mono ?_
      rintro E w4 ⟨v4, rfl, J, c4, f4, a4, n4, k4, rfl⟩
      have J := hide J
      go_wp2
      go_end0
      exact ⟨⟨_, rfl⟩, J.out⟩

end Go.Proofs.YtajlhdmnincehaaGreatDoor

/- The program's disk: tear. -/
namespace Go.Proofs.YtajlhdmnincehaaGreatDoor
open Go.RowKit Go.Shelf
set_option linter.unusedVariables false


/-- What the first bytes of the next raw write add. -/
def torn (st : Dm.Ds) (t : Nat) : Nat → List Int :=
  match st.wait[0]? with
  | some r => if r.cut then st.sure else Dm.one st.sure ⟨r.file, false, 0, r.bytes.take (min t (r.bytes.length - 1))⟩
  | none => st.sure


end Go.Proofs.YtajlhdmnincehaaGreatDoor

/- The program's disk: a raw step done ('do'). -/
namespace Go.Proofs.YtajlhdmnincehaaGreatDoor
open Go.RowKit Go.Shelf
set_option linter.unusedVariables false

theorem ok_push {st : Dm.Ds} {r : Dm.Rw} (h : Dm.Ok st) (hf : Dm.fits (Dm.dof st.sure st.wait) r) : Dm.Ok (Dm.push st r) := by
  unfold Dm.Ok Dm.push at *
  rw [Dm.valid_app]
  exact ⟨h, hf, trivial⟩

/-- A raw step becomes pending. -/
theorem push_tail {p : Nat} {W : World} {st : Dm.Ds} {s : Nat → Value} {wv : Value} {rs : List Rv} (h : PkV p W st s wv rs) (r : Rv) (hraw : Byt (fun _ => True) W r.v r.bytes) (hra : ∀ f, f < 4 → ∀ b, r.v.ownBlock = some b → (s f).ownBlock ≠ some b) (hfit : Dm.fits (Dm.dof st.sure st.wait) r.r) (hlen : rs.length ≤ 1000000) :
    ∃ V, W.drew.alloc (.cells #[.int .i64 (kof r), .int .i64 r.file, r.v, .int .i64 r.to] 133) = V ∧ V.cell? ⟨p, 7, none⟩ = some wv ∧ Hid (∀ ty, ∃ v' w', (Builtin.append_ #[65, 65] ty #[wv, .slice (some ⟨W.heap.size, 0, none⟩) 1 1]).run Tryz.prog V = .ok v' w' ∧
      ((∃ F', Pk p F' (w'.setCell ⟨p, 7, none⟩ v') (Dm.push st r.r) ∧ Out (FB p s wv rs) W (w'.setCell ⟨p, 7, none⟩ v') ∧ ∀ g, F' g → FB p s wv rs g ∨ W.heap.size ≤ g ∨ r.v.ownBlock = some g) ∧ w'.cell? ⟨p, 7, none⟩ = some wv ∧ w'.frozen? ⟨p, 7, none⟩ = false ∧ ∃ a n c, v' = .slice a n c)) := by
  obtain ⟨a0, n0, k0, hrv⟩ := hraw.1.form
  obtain ⟨V, hV, szV, belV, rowV⟩ := rows_step stepc 4 stepc_len 133 W.drew #[.int .i64 (kof r), .int .i64 r.file, r.v, .int .i64 r.to] 1 [r] rfl rfl (by decide)
  have belV' : Below W.heap.size W V := (below_drewN (Below.refl _ _) 1).trans belV
  have hV1 := h.below belV'
  refine ⟨V, hV, hV1.c7, hide fun ty => ?_⟩
  obtain ⟨v', w', hr, own', gr', at'⟩ := run_append_rows_at (P := Tryz.prog) 65 ty stepc 4 48 stepc_len (by decide) (by decide) (.agg #[.int .i64 0, .int .i64 0, .slice none 0 0, .int .i64 0]) rfl 133 0 Tryz.underlying65 Tryz.info133 wv rs hV1.con.row _ [r] rowV.row (stepc_one [r] fun q hq => by simp at hq; subst hq; exact hraw.1.form) (by simp; omega) (Nat.zero_le _)
  have out' : Out (fun g => wv.ownBlock = some g) V w' := Out.of_grown gr' fun g hg => hg
  have hC' : Con w' st.sure (st.wait ++ [r.r]) s v' (rs ++ [r]) := hV1.con.rows own' out' (fun q hq => by
    rcases List.mem_append.1 hq with hq | hq
    · exact ⟨hV1.con.raw q hq, hV1.con.rawa q hq⟩
    · simp at hq
      subst hq
      exact ⟨hraw.agree fun b hb => by obtain ⟨_, cs, fr, hc⟩ := hraw.2 b hb; exact belV'.block b (blk_lt hc), hra⟩) (by rw [List.map_append, h.con.wait]; rfl)
  have hp' : w'.heap[p]? = some (.cells (pcells s wv st.on (pfuse st) st.count) 67 (0, 0)) := (out'.block p (blk_lt hV1.blk) fun h1 => (hV1.con.ne hV1.blk (by decide) (by decide)).2.1 p h1 rfl).trans hV1.blk
  obtain ⟨R1, R2⟩ := PkV.put (st' := Dm.push st r.r) (s' := s) (wv' := v') (rs' := rs ++ [r]) hp' 7 v' rfl hC' (ok_push h.ok hfit)
  refine ⟨v', w', hr, ⟨_, ⟨s, v', rs ++ [r], R1, rfl⟩, ?_, ?_⟩, blk_cell hp' 7 rfl, blk_froz hp' 7, ?_⟩
  · have h1 : Out (FB p s wv rs) W w' := (Out.of_below belV').trans out' fun g hg => .inl (.inr (.inr (.inl hg)))
    exact h1.trans R2 fun g hg => .inl (.inl hg)
  · rintro g (h1 | h1 | h1 | ⟨q, hq, h1⟩)
    · exact .inl (.inl h1)
    · exact .inl (.inr (.inl h1))
    · rcases at' with h2 | h2
      · exact .inl (.inr (.inr (.inl (by rw [← h2]; exact h1))))
      · rw [h1] at h2
        simp at h2
        exact .inr (.inl (by have := belV'.size; omega))
    · rcases List.mem_append.1 hq with hq | hq
      · exact .inl (.inr (.inr (.inr ⟨q, hq, h1⟩)))
      · simp at hq
        subst hq
        exact .inr (.inr h1)
  · obtain ⟨a, c, hv, _⟩ := own'.row.shape
    exact ⟨a, _, c, hv⟩

/-- A raw step is counted. -/
theorem count_tail {p : Nat} {w : World} {st : Dm.Ds} {s : Nat → Value} {wv : Value} {rs : List Rv} (h : PkV p w st s wv rs) (hh : st.has = false) :
    ∃ V, w.setCell ⟨p, 8, none⟩ (.int .i64 ((st.count : Int) + 1)) = V ∧ PkV p V (Dm.burn st) s wv rs ∧ Out (FB p s wv rs) w V ∧ V.heap.size = w.heap.size ∧ ∀ g, g ≠ p → V.heap[g]? = w.heap[g]? := by
  have hb : Dm.burn st = { st with count := st.count + 1 } := by simp [Dm.burn, hh]
  obtain ⟨R1, R2⟩ := h.set (st' := Dm.burn st) 8 (.int .i64 ((st.count : Int) + 1)) (by rw [hb]; simp [pcells, pfuse, hh]) (by rw [hb]) (by rw [hb])
  exact ⟨_, rfl, R1, R2, by simp [World.setCell], fun g hg => Below.heap_setCell _ _ _ _ hg⟩

theorem burn_tail {p : Nat} {w : World} {st : Dm.Ds} {s : Nat → Value} {wv : Value} {rs : List Rv} (h : PkV p w st s wv rs) (hh : st.has = true) (hl : 1 ≤ st.left) :
    ∃ U V, w.setCell ⟨p, 2, none⟩ (.int .i64 ((st.left : Int) - 1)) = U ∧ U.setCell ⟨p, 8, none⟩ (.int .i64 ((st.count : Int) + 1)) = V ∧ U.cell? ⟨p, 8, none⟩ = some (.int .i64 st.count) ∧ U.frozen? ⟨p, 8, none⟩ = false ∧ PkV p V (Dm.burn st) s wv rs ∧ Out (FB p s wv rs) w V ∧ V.heap.size = w.heap.size ∧ ∀ g, g ≠ p → V.heap[g]? = w.heap[g]? := by
  have hb : Dm.burn st = { st with left := st.left - 1, count := st.count + 1 } := by simp [Dm.burn, hh]
  have hsub : ((st.left - 1 : Nat) : Int) = (st.left : Int) - 1 := by omega
  obtain ⟨R1, R2⟩ := h.set (st' := { st with left := st.left - 1 }) 2 (.int .i64 ((st.left : Int) - 1)) (by simp [pcells, pfuse, hh, hsub]) rfl rfl
  obtain ⟨R3, R4⟩ := R1.set (st' := Dm.burn st) 8 (.int .i64 ((st.count : Int) + 1)) (by rw [hb]; simp [pcells, pfuse, hh]) (by rw [hb]) (by rw [hb])
  exact ⟨_, _, rfl, rfl, R1.c8, R1.froz 8, R3, R2.trans R4 fun g hg => .inl hg, by simp [World.setCell], fun g hg => (Below.heap_setCell _ _ _ _ hg).trans (Below.heap_setCell _ _ _ _ hg)⟩

/-- Behind a raw step that became pending. -/
def PDo (p : Nat) (F : Nat → Prop) (w : World) (st' : Dm.Ds) (v : Value) (w' : World) : Prop := ∃ F', Pk p F' w' st' ∧ Out F w w' ∧ ∀ g, F' g → F g ∨ w.heap.size ≤ g ∨ v.ownBlock = some g

theorem PDo.of_step {p : Nat} {F : Nat → Prop} {w w' : World} {st' : Dm.Ds} {v : Value} (h : PStep p F w w' st') : PDo p F w st' v w' := by
  obtain ⟨F', h1, h2, h3⟩ := h
  exact ⟨F', h1, h2, fun g hg => (h3 g hg).elim .inl fun h => .inr (.inl h)⟩

set_option maxRecDepth 20000 in
set_option maxHeartbeats 8000000 in
theorem dopush_any (p : Nat) (F : Nat → Prop) (w : World) (st : Dm.Ds) (r : Rv) (h : Pk p F w st) (hraw : Byt (fun _ => True) w r.v r.bytes) (hra : ∀ b, r.v.ownBlock = some b → ¬ F b) (hfit : Dm.fits (Dm.dof st.sure st.wait) r.r) (hlen : st.wait.length ≤ 1000000) (hl : st.left ≤ 9223372036854775807) (hc : st.count < 9223372036854775807) :
    Calls Tryz.prog 88 #[.pointer (some ⟨p, 0, none⟩), .agg #[.int .i64 (kof r), .int .i64 r.file, r.v, .int .i64 r.to]] w fun E w' => E = .returned (.int .i64 (if Dm.off st then 6 else 0)) ∧ PDo p F w (if Dm.off st then Dm.dark st else Dm.push (Dm.burn st) r.r) r.v w' := by
  obtain ⟨s, wv, rs, h, rfl⟩ := h
  obtain ⟨a0, n0, k0, hrv⟩ := hraw.1.form
  obtain ⟨w1, hw1, sz1, bel1, hB⟩ := blk_step w #[.int .i64 (kof r), .int .i64 r.file, r.v, .int .i64 r.to] 133
  have h1 := h.below bel1
  have c1 := h1.c1
  have c2 := h1.c2
  have c8 := h1.c8
  have f1 := h1.froz 1
  have f2 := h1.froz 2
  have f8 := h1.froz 8
  have hraw1 : Byt (fun _ => True) w1 r.v r.bytes := hraw.agree fun b hb => by obtain ⟨_, cs, fr, hc⟩ := hraw.2 b hb; exact bel1.block b (blk_lt hc)
  have hra1 : ∀ f, f < 4 → ∀ b, r.v.ownBlock = some b → (s f).ownBlock ≠ some b := fun f hf b hb h2 => hra b hb (.inr (.inl ⟨f, hf, h2⟩))
  have hnp : ∀ b, r.v.ownBlock = some b → b ≠ p := fun b hb h2 => hra b hb (.inl h2)
  have hpw : p < w.heap.size := blk_lt h.blk
  have hlr := h.con.len
  have hkof : kof r = 0 ∨ kof r = 1 := by unfold kof; split <;> simp
  by_cases hoff : Dm.off st = true
  · rw [hoff, if_pos rfl, if_pos rfl]
    have hz : pfuse st = 0 := by
      simp [Dm.off] at hoff
      simp [pfuse, hoff.1, hoff.2]
    obtain ⟨R1, R2⟩ := h1.set (st' := Dm.dark st) 1 (.bool false) rfl rfl rfl
    have HR : Hid (PDo p (FB p s wv rs) w (Dm.dark st) r.v (w1.setCell ⟨p, 1, none⟩ (.bool false))) := hide (PDo.of_step (PStep.pre bel1 (PStep.of_set R1 R2)))
    rw [hz] at c2
    rw [hrv] at hw1 HR ⊢
    clear h h1 R1 R2 hB hraw hraw1 hra hra1 hnp hfit hlr hz hoff hrv
    go_enter Tryz.func88, Tryz.ntmps88
    go_wp2
    go_ret
    exact ⟨rfl, HR.out⟩
  · have hoff' : Dm.off st = false := by simpa using hoff
    rw [hoff', if_neg (by simp), if_neg (by simp)]
    cases hh : st.has
    · have hz : pfuse st = -1 := by simp [pfuse, hh]
      obtain ⟨W, hW, hPW, hOW, szW, keW⟩ := count_tail h1 hh
      have hBW := (keW w.heap.size (by omega)).trans hB
      have x0 : W.cell? ⟨w.heap.size, 0, none⟩ = some (.int .i64 (kof r)) := blk_cell hBW 0 rfl
      have x1 : W.cell? ⟨w.heap.size, 1, none⟩ = some (.int .i64 r.file) := blk_cell hBW 1 rfl
      have x2 : W.cell? ⟨w.heap.size, 2, none⟩ = some r.v := blk_cell hBW 2 rfl
      have x3 : W.cell? ⟨w.heap.size, 3, none⟩ = some (.int .i64 r.to) := blk_cell hBW 3 rfl
      have hb : (Dm.burn st).sure = st.sure ∧ (Dm.burn st).wait = st.wait := ⟨rfl, rfl⟩
      obtain ⟨V, hV, v7, X⟩ := push_tail hPW r (hraw1.agree fun b hb => keW b (hnp b hb)) hra1 (by rw [hb.1, hb.2]; exact hfit) (by omega)
      have X2 : Hid (∀ ty, ∃ v' w', (Builtin.append_ #[65, 65] ty #[wv, .slice (some ⟨W.heap.size, 0, none⟩) 1 1]).run Tryz.prog V = .ok v' w' ∧ (PDo p (FB p s wv rs) w (Dm.push (Dm.burn st) r.r) r.v (w'.setCell ⟨p, 7, none⟩ v') ∧ w'.cell? ⟨p, 7, none⟩ = some wv ∧ w'.frozen? ⟨p, 7, none⟩ = false ∧ ∃ a n c, v' = .slice a n c)) := hide fun ty => by
        obtain ⟨v', w', hr, ⟨F', g1, g2, g3⟩, h3⟩ := X.out ty
        refine ⟨v', w', hr, ⟨F', g1, ((Out.of_below bel1).trans hOW fun g hg => .inl hg).trans g2 fun g hg => .inl hg, fun g hg => ?_⟩, h3⟩
        rcases g3 g hg with h4 | h4 | h4
        · exact .inl h4
        · exact .inr (.inl (by omega))
        · exact .inr (.inr h4)
      have w7 : W.cell? ⟨p, 7, none⟩ = some wv := hPW.c7
      rw [hz] at c2
      rw [hrv] at hw1 x2 hV X2 ⊢
      have hcw : IntKind.i64.wrap ((st.count : Int) + 1) = (st.count : Int) + 1 := wrap64s _ (by omega) (by omega)
      rcases hkof with hk | hk
      · rw [hk] at hw1 x0 hV ⊢
        clear h h1 hB hraw hraw1 hra hra1 hnp hfit hlr hz hoff hoff' hrv hPW hOW keW hBW hb X hk hh
        go_enter Tryz.func88, Tryz.ntmps88
        go_wp2_with fail
        go_region_law (refine step_append_at rfl (.tmp 41) (.tmp 43) 65 rfl wv (.slice (some ⟨W.heap.size, 0, none⟩) 1 1) (by first | rfl | (simp [Act.eval]; done)) (by first | rfl | (simp [Act.eval]; done)) X2.out ?_; rintro v5 w5 ⟨J, d7, g7, a5, n5, c5, rfl⟩; have J := hide J)
        all_goals
          go_wp2
          go_ret
          exact ⟨rfl, J.out⟩
      · rw [hk] at hw1 x0 hV ⊢
        clear h h1 hB hraw hraw1 hra hra1 hnp hfit hlr hz hoff hoff' hrv hPW hOW keW hBW hb X hk hh
        go_enter Tryz.func88, Tryz.ntmps88
        go_wp2_with fail
        go_region_law (refine step_append_at rfl (.tmp 41) (.tmp 43) 65 rfl wv (.slice (some ⟨W.heap.size, 0, none⟩) 1 1) (by first | rfl | (simp [Act.eval]; done)) (by first | rfl | (simp [Act.eval]; done)) X2.out ?_; rintro v5 w5 ⟨J, d7, g7, a5, n5, c5, rfl⟩; have J := hide J)
        all_goals
          go_wp2
          go_ret
          exact ⟨rfl, J.out⟩
    · have hl1 : 1 ≤ st.left := by
        simp [Dm.off, hh] at hoff
        omega
      have hz : pfuse st = st.left := by simp [pfuse, hh]
      obtain ⟨U, W, hU, hW, u8, fu8, hPW, hOW, szW, keW⟩ := burn_tail h1 hh hl1
      have hBW := (keW w.heap.size (by omega)).trans hB
      have x0 : W.cell? ⟨w.heap.size, 0, none⟩ = some (.int .i64 (kof r)) := blk_cell hBW 0 rfl
      have x1 : W.cell? ⟨w.heap.size, 1, none⟩ = some (.int .i64 r.file) := blk_cell hBW 1 rfl
      have x2 : W.cell? ⟨w.heap.size, 2, none⟩ = some r.v := blk_cell hBW 2 rfl
      have x3 : W.cell? ⟨w.heap.size, 3, none⟩ = some (.int .i64 r.to) := blk_cell hBW 3 rfl
      have hb : (Dm.burn st).sure = st.sure ∧ (Dm.burn st).wait = st.wait := ⟨rfl, rfl⟩
      obtain ⟨V, hV, v7, X⟩ := push_tail hPW r (hraw1.agree fun b hb => keW b (hnp b hb)) hra1 (by rw [hb.1, hb.2]; exact hfit) (by omega)
      have X2 : Hid (∀ ty, ∃ v' w', (Builtin.append_ #[65, 65] ty #[wv, .slice (some ⟨W.heap.size, 0, none⟩) 1 1]).run Tryz.prog V = .ok v' w' ∧ (PDo p (FB p s wv rs) w (Dm.push (Dm.burn st) r.r) r.v (w'.setCell ⟨p, 7, none⟩ v') ∧ w'.cell? ⟨p, 7, none⟩ = some wv ∧ w'.frozen? ⟨p, 7, none⟩ = false ∧ ∃ a n c, v' = .slice a n c)) := hide fun ty => by
        obtain ⟨v', w', hr, ⟨F', g1, g2, g3⟩, h3⟩ := X.out ty
        refine ⟨v', w', hr, ⟨F', g1, ((Out.of_below bel1).trans hOW fun g hg => .inl hg).trans g2 fun g hg => .inl hg, fun g hg => ?_⟩, h3⟩
        rcases g3 g hg with h4 | h4 | h4
        · exact .inl h4
        · exact .inr (.inl (by omega))
        · exact .inr (.inr h4)
      have w7 : W.cell? ⟨p, 7, none⟩ = some wv := hPW.c7
      rw [hz] at c2
      rw [hrv] at hw1 x2 hV X2 ⊢
      have hcw : IntKind.i64.wrap ((st.count : Int) + 1) = (st.count : Int) + 1 := wrap64s _ (by omega) (by omega)
      have hlw : IntKind.i64.wrap ((st.left : Int) - 1) = (st.left : Int) - 1 := wrap64s _ (by omega) (by omega)
      have hl0 : ((st.left : Int) == 0) = false := beq_eq_false_iff_ne.2 (by omega)
      have hlm : ((st.left : Int) == -1) = false := beq_eq_false_iff_ne.2 (by omega)
      rcases hkof with hk | hk
      · rw [hk] at hw1 x0 hV ⊢
        clear h h1 hB hraw hraw1 hra hra1 hnp hfit hlr hz hoff hoff' hrv hPW hOW keW hBW hb X hk hh
        go_enter Tryz.func88, Tryz.ntmps88
        go_wp2_with fail
        go_region_law (refine step_append_at rfl (.tmp 41) (.tmp 43) 65 rfl wv (.slice (some ⟨W.heap.size, 0, none⟩) 1 1) (by first | rfl | (simp [Act.eval]; done)) (by first | rfl | (simp [Act.eval]; done)) X2.out ?_; rintro v5 w5 ⟨J, d7, g7, a5, n5, c5, rfl⟩; have J := hide J)
        all_goals
          go_wp2
          go_ret
          exact ⟨rfl, J.out⟩
      · rw [hk] at hw1 x0 hV ⊢
        clear h h1 hB hraw hraw1 hra hra1 hnp hfit hlr hz hoff hoff' hrv hPW hOW keW hBW hb X hk hh
        go_enter Tryz.func88, Tryz.ntmps88
        go_wp2_with fail
        go_region_law (refine step_append_at rfl (.tmp 41) (.tmp 43) 65 rfl wv (.slice (some ⟨W.heap.size, 0, none⟩) 1 1) (by first | rfl | (simp [Act.eval]; done)) (by first | rfl | (simp [Act.eval]; done)) X2.out ?_; rintro v5 w5 ⟨J, d7, g7, a5, n5, c5, rfl⟩; have J := hide J)
        all_goals
          go_wp2
          go_ret
          exact ⟨rfl, J.out⟩

end Go.Proofs.YtajlhdmnincehaaGreatDoor

/- The program's disk: Sync, Cut, Read, Durable, Start. -/
namespace Go.Proofs.YtajlhdmnincehaaGreatDoor
open Go.RowKit Go.Shelf
set_option linter.unusedVariables false

theorem flush_eq (st : Dm.Ds) (n : Nat) (hn : n = st.wait.length) : ({ st with sure := Dm.dof st.sure (st.wait.take n), wait := st.wait.drop n } : Dm.Ds) = Dm.flush st := by
  subst hn
  simp [Dm.flush]

set_option maxRecDepth 20000 in
set_option maxHeartbeats 8000000 in
theorem dosync_any (p : Nat) (F : Nat → Prop) (w : World) (st : Dm.Ds) (h : Pk p F w st) (hsz : ∀ f, (st.sure f).length + Dm.bulk st.wait ≤ 140737488355000) (hlen : st.wait.length ≤ 1000000) (hl : st.left ≤ 9223372036854775807) (hc : st.count < 9223372036854775807) :
    Calls Tryz.prog 88 #[.pointer (some ⟨p, 0, none⟩), .agg #[.int .i64 2, .int .i64 0, .slice none 0 0, .int .i64 0]] w fun E w' => E = .returned (.int .i64 (if Dm.off st then 6 else 0)) ∧ PStep p F w w' (if Dm.off st then Dm.dark st else Dm.flush (Dm.burn st)) := by
  obtain ⟨s, wv, rs, h, rfl⟩ := h
  obtain ⟨w1, hw1, sz1, bel1, hB⟩ := blk_step w #[.int .i64 2, .int .i64 0, .slice none 0 0, .int .i64 0] 133
  have h1 := h.below bel1
  have c1 := h1.c1
  have c2 := h1.c2
  have c8 := h1.c8
  have f1 := h1.froz 1
  have f2 := h1.froz 2
  have f8 := h1.froz 8
  have hpw : p < w.heap.size := blk_lt h.blk
  have hlr := h.con.len
  obtain ⟨ao, cap, hv, _, _⟩ := h.con.row.row.shape
  by_cases hoff : Dm.off st = true
  · rw [hoff, if_pos rfl, if_pos rfl]
    have hz : pfuse st = 0 := by
      simp [Dm.off] at hoff
      simp [pfuse, hoff.1, hoff.2]
    obtain ⟨R1, R2⟩ := h1.set (st' := Dm.dark st) 1 (.bool false) rfl rfl rfl
    have HR : Hid (PStep p (FB p s wv rs) w (w1.setCell ⟨p, 1, none⟩ (.bool false)) (Dm.dark st)) := hide (PStep.pre bel1 (PStep.of_set R1 R2))
    rw [hz] at c2
    clear h h1 R1 R2 hB hlr hz hoff hv
    go_enter Tryz.func88, Tryz.ntmps88
    go_wp2
    go_ret
    exact ⟨rfl, HR.out⟩
  · have hoff' : Dm.off st = false := by simpa using hoff
    rw [hoff', if_neg (by simp), if_neg (by simp)]
    have tail : ∀ W, PkV p W (Dm.burn st) s wv rs → Out (FB p s wv rs) w1 W → Hid (Calls Tryz.prog 154 #[.pointer (some ⟨p, 0, none⟩), .int .i64 rs.length] W fun E w' => (∃ v, E = .returned v) ∧ PStep p (FB p s wv rs) w w' (Dm.flush (Dm.burn st))) := fun W hP hO => hide (by
      refine (settle_any p _ W (Dm.burn st) rs.length ⟨s, wv, rs, hP, rfl⟩ (by have : (Dm.burn st).wait = st.wait := rfl; rw [this]; omega) hsz hlen).mono ?_
      rintro E w' ⟨hE, hS⟩
      rw [flush_eq _ _ (by have : (Dm.burn st).wait = st.wait := rfl; rw [this]; omega)] at hS
      exact ⟨hE, (hS.trans hO fun g hg => .inl hg).pre bel1⟩)
    have hcw : IntKind.i64.wrap ((st.count : Int) + 1) = (st.count : Int) + 1 := wrap64s _ (by omega) (by omega)
    cases hh : st.has
    · have hz : pfuse st = -1 := by simp [pfuse, hh]
      obtain ⟨W, hW, hPW, hOW, szW, keW⟩ := count_tail h1 hh
      have hBW := (keW w.heap.size (by omega)).trans hB
      have x0 : W.cell? ⟨w.heap.size, 0, none⟩ = some (.int .i64 2) := blk_cell hBW 0 rfl
      have w7 : W.cell? ⟨p, 7, none⟩ = some wv := hPW.c7
      have T := tail W hPW hOW
      rw [hv] at w7
      rw [hz] at c2
      clear h h1 hB hlr hz hoff hoff' hv hPW hOW keW hBW hh tail
      go_enter Tryz.func88, Tryz.ntmps88
      go_wp2_with fail
      refine T.out.mono ?_
      rintro E w5 ⟨⟨v5, rfl⟩, J⟩
      have J := hide J
      go_wp2
      go_ret
      exact ⟨rfl, J.out⟩
    · have hl1 : 1 ≤ st.left := by
        simp [Dm.off, hh] at hoff
        omega
      have hz : pfuse st = st.left := by simp [pfuse, hh]
      obtain ⟨U, W, hU, hW, u8, fu8, hPW, hOW, szW, keW⟩ := burn_tail h1 hh hl1
      have hBW := (keW w.heap.size (by omega)).trans hB
      have x0 : W.cell? ⟨w.heap.size, 0, none⟩ = some (.int .i64 2) := blk_cell hBW 0 rfl
      have w7 : W.cell? ⟨p, 7, none⟩ = some wv := hPW.c7
      have T := tail W hPW hOW
      rw [hv] at w7
      rw [hz] at c2
      have hlw : IntKind.i64.wrap ((st.left : Int) - 1) = (st.left : Int) - 1 := wrap64s _ (by omega) (by omega)
      have hl0 : ((st.left : Int) == 0) = false := beq_eq_false_iff_ne.2 (by omega)
      have hlm : ((st.left : Int) == -1) = false := beq_eq_false_iff_ne.2 (by omega)
      clear h h1 hB hlr hz hoff hoff' hv hPW hOW keW hBW hh tail
      go_enter Tryz.func88, Tryz.ntmps88
      go_wp2_with fail
      refine T.out.mono ?_
      rintro E w5 ⟨⟨v5, rfl⟩, J⟩
      have J := hide J
      go_wp2
      go_ret
      exact ⟨rfl, J.out⟩

theorem pair_if {α β : Type} (b : Bool) (x y : α) (u v : β) : (if b = true then (x, u) else (y, v)) = ((if b = true then x else y), if b = true then u else v) := by cases b <;> rfl

set_option maxRecDepth 20000 in
set_option maxHeartbeats 2000000 in
theorem sync_any (p : Nat) (F : Nat → Prop) (w : World) (st : Dm.Ds) (h : Pk p F w st) (hsz : ∀ f, (st.sure f).length + Dm.bulk st.wait ≤ 140737488355000) (hlen : st.wait.length ≤ 1000000) (hl : st.left ≤ 9223372036854775807) (hc : st.count < 9223372036854775807) :
    Calls Tryz.prog 193 #[.pointer (some ⟨p, 0, none⟩)] w fun E w' => E = .returned (.int .i64 (Dm.sync st).1) ∧ PStep p F w w' (Dm.sync st).2 := by
  have HA := hide (refuses_any p F w st h)
  have HD := hide (dosync_any p F w st h hsz hlen hl hc)
  have HK := hide h
  clear h
  unfold Dm.sync
  cases hon : st.on
  · rw [if_pos rfl]
    have hk := ask_off hon
    clear hon
    go_enter Tryz.func193, Tryz.ntmps193
    go_wp2_with fail
    refine HA.out.mono ?_
    rintro E w1 ⟨rfl, rfl⟩
    rw [hk]
    go_wp2
    go_ret
    exact ⟨rfl, PStep.same HK.out (Below.refl _ _)⟩
  · rw [if_neg (by simp), pair_if]
    have hk := ask_on hon
    generalize (if Dm.off st = true then (6 : Int) else 0) = e at HD ⊢
    generalize (if Dm.off st = true then Dm.dark st else Dm.flush (Dm.burn st)) = st' at HD ⊢
    clear hon
    go_enter Tryz.func193, Tryz.ntmps193
    go_wp2_with fail
    refine HA.out.mono ?_
    rintro E w1 ⟨rfl, rfl⟩
    rw [hk]
    go_wp2_with fail
    refine HD.out.mono ?_
    rintro E w2 ⟨rfl, J⟩
    have J := hide J
    go_wp2
    go_ret
    exact ⟨rfl, J.out⟩

/-- What Read tells. -/
def rdE (st : Dm.Ds) (file : Int) : Int := if st.on = false then 6 else if Dm.inF file = false then 2 else 0
def rdB (st : Dm.Ds) (file : Int) : List Int := if st.on = false then [] else if Dm.inF file = false then [] else Dm.hold file.toNat (st.sure file.toNat) st.wait

theorem inF_nat {file : Int} (h : Dm.inF file = true) : ∃ f : Nat, f < 4 ∧ file = f := by
  simp [Dm.inF] at h
  exact ⟨file.toNat, by omega, by omega⟩

set_option maxRecDepth 20000 in
set_option maxHeartbeats 2000000 in
theorem dread_any (p : Nat) (F : Nat → Prop) (w : World) (st : Dm.Ds) (file : Int) (h : Pk p F w st) (hsz : ∀ f, (st.sure f).length + Dm.bulk st.wait ≤ 140737488355000) (hlen : st.wait.length ≤ 1000000) :
    Calls Tryz.prog 132 #[.pointer (some ⟨p, 0, none⟩), .int .i64 file] w fun E w' => ∃ v, E = .returned (.tuple #[v, .int .i64 (rdE st file)]) ∧ Own .u8 5 w.heap.size w' v (rdB st file) ∧ Below w.heap.size w w' := by
  have HA := hide (refuses_any p F w st h)
  have HF := hide (isfile_any file w)
  cases hon : st.on
  · have e1 : rdE st file = 6 := by simp [rdE, hon]
    have e2 : rdB st file = [] := by simp [rdB, hon]
    rw [e1, e2]
    have hk := ask_off hon
    clear hon h e1 e2
    go_enter Tryz.func132, Tryz.ntmps132
    go_wp2_with fail
    refine HA.out.mono ?_
    rintro E w1 ⟨rfl, rfl⟩
    rw [hk]
    go_wp2
    refine bodyPost_ret (results_tmp2 rfl _ _ _) rfl ?_
    exact ⟨_, rfl, Own.nil _ _ _ _, Below.refl _ _⟩
  · have hk := ask_on hon
    cases hin : Dm.inF file
    · have e1 : rdE st file = 2 := by simp [rdE, hon, hin]
      have e2 : rdB st file = [] := by simp [rdB, hon, hin]
      rw [e1, e2]
      rw [hin] at HF
      clear hon h e1 e2 hin
      go_enter Tryz.func132, Tryz.ntmps132
      go_wp2_with fail
      refine HA.out.mono ?_
      rintro E w1 ⟨rfl, rfl⟩
      rw [hk]
      go_wp2_with fail
      refine HF.out.mono ?_
      rintro E w1 ⟨rfl, rfl⟩
      go_wp2
      refine bodyPost_ret (results_tmp2 rfl _ _ _) rfl ?_
      exact ⟨_, rfl, Own.nil _ _ _ _, Below.refl _ _⟩
    · obtain ⟨f, hf, rfl⟩ := inF_nat hin
      have e1 : rdE st f = 0 := by simp [rdE, hon, hin]
      have e2 : rdB st f = Dm.hold f (st.sure f) st.wait := by simp [rdB, hon, hin]
      rw [e1, e2]
      rw [hin] at HF
      have HH := hide (held_any p F w st f h hf (hsz f) hlen)
      clear hon h e1 e2 hin
      go_enter Tryz.func132, Tryz.ntmps132
      go_wp2_with fail
      refine HA.out.mono ?_
      rintro E w1 ⟨rfl, rfl⟩
      rw [hk]
      go_wp2_with fail
      refine HF.out.mono ?_
      rintro E w1 ⟨rfl, rfl⟩
      go_wp2_with fail
      refine HH.out.mono ?_
      rintro E w2 ⟨v2, rfl, own2, bel2⟩
      go_wp2
      refine bodyPost_ret (results_tmp2 rfl _ _ _) rfl ?_
      exact ⟨_, rfl, own2, bel2⟩


end Go.Proofs.YtajlhdmnincehaaGreatDoor

/- slices.Chunk of bytes: what its iterator yields. -/
namespace Go.Proofs.YtajlhdmnincehaaGreatDoor
open Go.RowKit Go.Shelf
set_option linter.unusedVariables false
attribute [local go_sem] Oper.semAt_some

/-- A chunk's place. -/
abbrev Cx (L : Nat) := { i : Nat // i * 64 < L }

/-- How many chunks. -/
def cnt (L : Nat) : Nat := (L + 63) / 64

/-- The first k of them. -/
def up (L : Nat) : Nat → List (Cx L)
  | 0 => []
  | k + 1 => up L k ++ (if h : k * 64 < L then [⟨k, h⟩] else [])

theorem up_next (L k : Nat) (h : k * 64 < L) : up L (k + 1) = up L k ++ [⟨k, h⟩] := by rw [up, dif_pos h]

theorem up_len (L : Nat) : ∀ k, k ≤ cnt L → (up L k).length = k
  | 0, _ => rfl
  | k + 1, h => by
    have h1 : k * 64 < L := by unfold cnt at h; omega
    rw [up_next L k h1, List.length_append, up_len L k (by omega)]
    rfl

/-- A chunk's value. -/
def chv (b off L i : Nat) : Value := .slice (some ⟨b, off + i * 64, none⟩) (min 64 (L - i * 64)) (min 64 (L - i * 64))

/-- What a round keeps: the two boxes. -/
def Kc (Bs Bn : Nat) (W W' : World) : Prop := W'.heap[Bs]? = W.heap[Bs]? ∧ W'.heap[Bn]? = W.heap[Bn]?

theorem Kc.trans {Bs Bn : Nat} {A B C : World} (h : Kc Bs Bn A B) (k : Kc Bs Bn B C) : Kc Bs Bn A C := ⟨k.1.trans h.1, k.2.trans h.2⟩

theorem cell_of_heap {W W' : World} {B : Nat} (h : W'.heap[B]? = W.heap[B]?) (j : Nat) : W'.cell? ⟨B, j, none⟩ = W.cell? ⟨B, j, none⟩ := World.cell?_of_block (show W'.heap[(⟨B, j, none⟩ : Addr).block]? = W.heap[(⟨B, j, none⟩ : Addr).block]? from h)

/-- The facts of a round's slice expressions. -/
theorem chunk_facts (b off L cap q m : Nat) (hL : L = q + m) (hm : 0 < m) (hcap : L ≤ cap) (hcm : cap ≤ maxLen) (e : Nat) (he : 0 < e) (hem : e ≤ m) :
    (∀ ty wx, (Builtin.len_ #[28] ty #[.slice (some ⟨b, off, none⟩) L cap]).run Tryz.prog wx = .ok (.int .i64 L) wx) ∧
    (∀ wx, (Instr.slice 28 (.slice (some ⟨b, off, none⟩) L cap) (some (.int .i64 q)) none none).run Tryz.prog wx = .ok (.slice (some ⟨b, off + q, none⟩) m (cap - q)) wx) ∧
    ∀ wx, (Instr.slice 28 (.slice (some ⟨b, off, none⟩) L cap) (some (.int .i64 q)) (some (.int .i64 ((q : Int) + e))) (some (.int .i64 ((q : Int) + e)))).run Tryz.prog wx = .ok (.slice (some ⟨b, off + q, none⟩) e e) wx := by
  have hu := Tryz.underlying28
  refine ⟨fun ty wx => by simp [Builtin.len_, run_underlying hu, goInt], fun wx => ?_, fun wx => ?_⟩
  · rw [run_slice_l wx 28 (some ⟨b, off, none⟩) L cap Tryz.elemP .i64 _ (by omega) (by omega), Tryz.sizeP]
    have h1 : ¬ cap = q := by omega
    have h2 : L - q = m := by omega
    simp [Result.andThen, sliced, h1, h2, add_at]
  · rw [run_slice_lhm wx 28 (some ⟨b, off, none⟩) L cap Tryz.elemP .i64 .i64 .i64 _ _ _ (by omega) (by omega) (by omega) (by omega), Tryz.sizeP]
    have h1 : ¬ ((q : Int) + e).toNat = q := by omega
    have h2 : ((q : Int) + e).toNat - q = e := by omega
    simp [Result.andThen, sliced, h1, h2, add_at]

set_option maxRecDepth 100000 in
set_option maxHeartbeats 4000000 in
theorem chunk_one (n : Nat) (hn : 1 ≤ n) (l Bs Bn b off L cap : Nat) (sv : Value) (hsv : sv = .slice (some ⟨b, off, none⟩) L cap ∨ (L = 0 ∧ ∃ ao c, sv = .slice ao 0 c)) (hcap : L ≤ cap) (hcm : cap ≤ maxLen) (hLm : L ≤ 140737488355328) (J Jx : List (Cx L) → World → Prop) (W : World) (hJ : AbidesFrom W.heap.size J)
    (hY : ∀ pre x W1, J pre W1 → pre.length < cnt L → YieldAt Fence.wide (n - 1) Tryz.prog l #[chv b off L x.1] W1 fun e W' => (e = .returned (.bool true) ∧ J (pre ++ [x]) W' ∧ Kc Bs Bn W1 W') ∨ (e = .returned (.bool false) ∧ Jx (pre ++ [x]) W'))
    (hBs : W.cell? ⟨Bs, 0, none⟩ = some sv) (hBn : W.cell? ⟨Bn, 0, none⟩ = some (.int .i64 64)) (h0 : J [] W) :
    CallsIn Fence.wide n Tryz.prog 153 #[.func (.yield l) #[] #[], .pointer (some ⟨Bs, 0, none⟩), .pointer (some ⟨Bn, 0, none⟩)] W fun e W' => (∃ v, e = .returned v) ∧ ((∃ xs, xs = up L (cnt L) ∧ J xs W') ∨ (∃ pre, (∃ k, k ≤ cnt L ∧ pre = up L k) ∧ Jx pre W')) := by
  have hro : Fence.wide.round = none := rfl
  have hlen0 : ∀ ty wx, (Builtin.len_ #[28] ty #[sv]).run Tryz.prog wx = .ok (.int .i64 L) wx := by
    rcases hsv with rfl | ⟨rfl, ao, c, rfl⟩
    · intro ty wx; simp [Builtin.len_, run_underlying Tryz.underlying28, goInt]
    · intro ty wx; simp [Builtin.len_, run_underlying Tryz.underlying28, goInt]
  refine callsIn_of_wp Tryz.func153 rfl trivial ?_ hro
  simp only [Tryz.ntmps153, List.size_toArray, List.length_cons, List.length_nil, Nat.reduceAdd, Nat.reduceSub, Array.replicate_succ, Array.replicate_zero, List.push_toArray, List.append_toArray, List.nil_append, List.cons_append]
  gi_wp2
  gi_loopw [4] (fun iv wr => ∃ k : Nat, k ≤ cnt L ∧ iv = .int .i64 (k * 64 : Nat) ∧ Hid (J (up L k) wr) ∧ Kc Bs Bn W wr) (fun iv _ => (L + 64) - (intOf iv).toNat)
  case atStart => exact ⟨0, Nat.zero_le _, rfl, h0, ⟨rfl, rfl⟩⟩
  case round =>
    obtain ⟨k, hk, rfl, HJ, hK⟩ := hrel
    have cs : wr.cell? ⟨Bs, 0, none⟩ = some sv := (cell_of_heap hK.1 0).trans hBs
    have cn : wr.cell? ⟨Bn, 0, none⟩ = some (.int .i64 64) := (cell_of_heap hK.2 0).trans hBn
    obtain ⟨q, hq⟩ : ∃ q, q = k * 64 := ⟨_, rfl⟩
    rw [← hq]
    by_cases hlt : q < L
    · obtain ⟨m, hm⟩ : ∃ m, L = q + m := ⟨L - q, by omega⟩
      have hk64 : k * 64 < L := by omega
      have hsv' : sv = .slice (some ⟨b, off, none⟩) L cap := by
        rcases hsv with h | ⟨h, _⟩
        · exact h
        · omega
      have JD : J (up L k) wr.drew := hJ _ wr wr.drew none HJ.out ⟨rfl, rfl, rfl, Nat.le_refl _, fun _ _ _ => rfl⟩ (fun r e => by cases e)
      have hlt' : (q : Int) < L := by omega
      by_cases hsm : m < 64
      · have ev : chv b off L k = .slice (some ⟨b, off + q, none⟩) m m := by
          have h1 : min 64 (L - k * 64) = m := by omega
          unfold chv
          rw [h1, ← hq]
        obtain ⟨f1, f2, f3⟩ := chunk_facts b off L cap q m hm (by omega) hcap hcm m (by omega) (by omega)
        rw [← hsv'] at f2 f3
        obtain ⟨fn, tmps, assign, body, hy, hR⟩ := hY _ ⟨k, hk64⟩ wr.drew JD (by rw [up_len L k hk]; unfold cnt; omega)
        dsimp only at hy
        rw [ev] at hy
        have hmi : (m : Int) < 64 := by omega
        have hw1 : IntKind.i64.wrap ((q : Int) + (m : Nat)) = (q : Int) + (m : Nat) := wrap64s _ (by omega) (by omega)
        have hw2 : IntKind.i64.wrap ((q : Int) + 64) = (q : Int) + 64 := wrap64s _ (by omega) (by omega)
        have HR := hide hR
        have HQ := hide hq
        have HM := hide hm
        clear f1 hR ev hsv hsv' hq hm JD hY hBs hBn hJ h0
        gi_wp2
        gi_region
        all_goals
          gi_wp2
          refine HR.out.mono ?_
          rintro e W3 (⟨rfl, hJ3, hk3⟩ | ⟨rfl, hJx3⟩)
          · have cs3 : W3.cell? ⟨Bs, 0, none⟩ = some sv := (cell_of_heap hk3.1 0).trans cs
            have cn3 : W3.cell? ⟨Bn, 0, none⟩ = some (.int .i64 64) := (cell_of_heap hk3.2 0).trans cn
            have hJ4 : Hid (J (up L (k + 1)) W3) := hide (by rw [up_next L k hk64]; exact hJ3)
            have hK4 : Kc Bs Bn W W3 := hK.trans hk3
            clear hJ3
            gi_wp2
            go_roundw
            case rel => exact ⟨k + 1, by unfold cnt; omega, by have := HQ.out; congr 1; omega, hJ4, hK4⟩
            case measure => simp [intOf]; have := HQ.out; omega
          · have hJ4 : Hid (Jx (up L (k + 1)) W3) := hide (by rw [up_next L k hk64]; exact hJx3)
            clear hJx3
            gi_wp2
            refine bodyPost_ret (results_none rfl _ _ _) rfl ?_
            exact ⟨⟨_, rfl⟩, .inr ⟨_, ⟨k + 1, by unfold cnt; omega, rfl⟩, hJ4.out⟩⟩
      · have ev : chv b off L k = .slice (some ⟨b, off + q, none⟩) 64 64 := by
          have h1 : min 64 (L - k * 64) = 64 := by omega
          unfold chv
          rw [h1, ← hq]
        obtain ⟨f1, f2, f3⟩ := chunk_facts b off L cap q m hm (by omega) hcap hcm 64 (by omega) (by omega)
        rw [← hsv'] at f2 f3
        have f4 : ∀ wx, (Instr.slice 28 sv (some (.int .i64 q)) (some (.int .i64 ((q : Int) + 64))) (some (.int .i64 ((q : Int) + 64)))).run Tryz.prog wx = .ok (.slice (some ⟨b, off + q, none⟩) 64 64) wx := f3
        clear f3
        obtain ⟨fn, tmps, assign, body, hy, hR⟩ := hY _ ⟨k, hk64⟩ wr.drew JD (by rw [up_len L k hk]; unfold cnt; omega)
        dsimp only at hy
        rw [ev] at hy
        have hmi : ¬ (m : Int) < 64 := by omega
        have hw2 : IntKind.i64.wrap ((q : Int) + 64) = (q : Int) + 64 := wrap64s _ (by omega) (by omega)
        have HR := hide hR
        have HQ := hide hq
        have HM := hide hm
        clear f1 hR ev hsv hsv' hq hm JD hY hBs hBn hJ h0
        gi_wp2
        gi_region
        all_goals
          gi_wp2
          refine HR.out.mono ?_
          rintro e W3 (⟨rfl, hJ3, hk3⟩ | ⟨rfl, hJx3⟩)
          · have cs3 : W3.cell? ⟨Bs, 0, none⟩ = some sv := (cell_of_heap hk3.1 0).trans cs
            have cn3 : W3.cell? ⟨Bn, 0, none⟩ = some (.int .i64 64) := (cell_of_heap hk3.2 0).trans cn
            have hJ4 : Hid (J (up L (k + 1)) W3) := hide (by rw [up_next L k hk64]; exact hJ3)
            have hK4 : Kc Bs Bn W W3 := hK.trans hk3
            clear hJ3
            gi_wp2
            go_roundw
            case rel => exact ⟨k + 1, by unfold cnt; omega, by have := HQ.out; congr 1; omega, hJ4, hK4⟩
            case measure => simp [intOf]; have := HQ.out; omega
          · have hJ4 : Hid (Jx (up L (k + 1)) W3) := hide (by rw [up_next L k hk64]; exact hJx3)
            clear hJx3
            gi_wp2
            refine bodyPost_ret (results_none rfl _ _ _) rfl ?_
            exact ⟨⟨_, rfl⟩, .inr ⟨_, ⟨k + 1, by unfold cnt; omega, rfl⟩, hJ4.out⟩⟩
    · have hlt' : ¬ (q : Int) < L := by omega
      obtain rfl : k = cnt L := by unfold cnt at hk ⊢; omega
      clear hq
      gi_wp2
      go_end0
      exact ⟨⟨_, rfl⟩, .inl HJ.out⟩

theorem chunk_any (v : Value) (hv : ∃ a n c, v = .slice a n c) (w : World) : Calls Tryz.prog 87 #[v, .int .i64 64] w fun e w' => e = .returned (.func (.func 153) #[] #[.pointer (some ⟨w.heap.size, 0, none⟩), .pointer (some ⟨w.heap.size + 1, 0, none⟩)]) ∧ w' = (w.alloc (.cells #[v] 28)).alloc (.cells #[.int .i64 64] 3) := by
  obtain ⟨a, n, c, rfl⟩ := hv
  go_enter Tryz.func87, Tryz.ntmps87
  go_wp2
  go_ret
  exact ⟨rfl, rfl⟩

end Go.Proofs.YtajlhdmnincehaaGreatDoor
