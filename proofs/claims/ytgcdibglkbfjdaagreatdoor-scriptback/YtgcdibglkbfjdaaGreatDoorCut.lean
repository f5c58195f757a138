/- A cut of a row of integers, told as one fact of the slice expression; its length. No program. -/
import Derived.Test.YtgcdibglkbfjdaaGreatDoorKit
import Derived.Deep.RegionLaw
import Derived.Laws.OwnMore
namespace Go.Proofs.YtgcdibglkbfjdaaGreatDoor
open Go.RowKit
set_option linter.unusedVariables false

section
variable {P : Program} {k : IntKind} {w : World} {v : Value} {zs : List Int}

/-- 'v[l:p]'. -/
theorem Is.slice_lh (h : Is k w v zs) {t : TypeId} (ht : P.underlying t = some (.slice (P.elem t))) (hs : ∀ wx, (sizeOf (P.elem t)).run P wx = .ok 1 wx) (l p : Nat) (hl : l ≤ p) (hp : p ≤ zs.length) :
    ∃ vs, (∀ wx, (Instr.slice t v (some (.int .i64 l)) (some (.int .i64 p)) none).run P wx = .ok vs wx) ∧ Is k w vs ((zs.drop l).take (p - l)) := by
  have hlen : ((zs.drop l).take (p - l)).length = p - l := by rw [List.length_take, List.length_drop]; omega
  have hwf : ∀ z ∈ (zs.drop l).take (p - l), (Lit.int k z).wf = true := fun z hz => h.1 z (List.mem_of_mem_drop (List.mem_of_mem_take hz))
  rcases h.2 with ⟨hv, hz⟩ | ⟨ad, cap, hv, h1, h2, hc⟩
  · subst hz hv
    simp at hp
    subst hp
    obtain rfl : l = 0 := by omega
    refine ⟨.slice none 0 0, fun wx => ?_, Is.nil _ _⟩
    rw [run_slice_lh wx t none 0 0 ht .i64 .i64 _ _ (by omega) (by omega) (by omega), hs]
    rfl
  · subst hv
    by_cases hcl : cap = l
    · have hpl : p = l := by omega
      subst hpl
      refine ⟨.slice (some ad) 0 0, fun wx => ?_, hwf, .inr ⟨ad, 0, by rw [hlen]; simp, by rw [hlen]; simp, by simp, fun i hi => by rw [hlen] at hi; omega⟩⟩
      rw [run_slice_lh wx t (some ad) zs.length cap ht .i64 .i64 _ _ (by omega) (by omega) (by omega), hs]
      simp [Result.andThen, sliced, hcl]
    · refine ⟨.slice (some (ad.add l)) (p - l) (cap - l), fun wx => ?_, hwf, .inr ⟨ad.add l, cap - l, by rw [hlen], by rw [hlen]; omega, by omega, fun i hi => ?_⟩⟩
      · rw [run_slice_lh wx t (some ad) zs.length cap ht .i64 .i64 _ _ (by omega) (by omega) (by omega), hs]
        simp [Result.andThen, sliced, hcl]
      · rw [hlen] at hi
        have e : (ad.add l).add i = ad.add (l + i) := by
          unfold Addr.add
          by_cases h0 : l = 0 <;> by_cases h3 : i = 0 <;> simp [h0, h3, Nat.add_assoc]
        rw [e, hc (l + i) (by omega)]
        simp [List.getD, hi]

/-- 'v[l:]'. -/
theorem Is.slice_l (h : Is k w v zs) {t : TypeId} (ht : P.underlying t = some (.slice (P.elem t))) (hs : ∀ wx, (sizeOf (P.elem t)).run P wx = .ok 1 wx) (l : Nat) (hl : l ≤ zs.length) :
    ∃ vs, (∀ wx, (Instr.slice t v (some (.int .i64 l)) none none).run P wx = .ok vs wx) ∧ Is k w vs (zs.drop l) := by
  obtain ⟨vs, h1, h2⟩ := h.slice_lh ht hs l zs.length hl (Nat.le_refl _)
  rw [List.take_of_length_le (by simp)] at h2
  refine ⟨vs, fun wx => ?_, h2⟩
  obtain ⟨ao, cap, rfl, hcap, _⟩ := h.shape
  rw [← h1 wx, run_slice_lh wx t ao zs.length cap ht .i64 .i64 _ _ (by omega) (by omega) (by omega), run_slice_l wx t ao zs.length cap ht .i64 _ (by omega) (by omega)]
  simp

/-- 'len(v)'. -/
theorem Is.len_run (h : Is k w v zs) {t : TypeId} (ht : P.underlying t = some (.slice (P.elem t))) : ∀ ty wx, (Builtin.len_ #[t] ty #[v]).run P wx = .ok (goInt zs.length) wx := by
  intro ty wx
  obtain ⟨ao, cap, rfl, _, _⟩ := h.shape
  simp [Builtin.len_, run_underlying ht]

end

/-- 'append(out, xs...)' inside a region that draws its order: out nil or the call's own, xs whatever slice of the same numbers. -/
theorem step_append_is {P : Program} {ops : Array Oper} {o : Oper} {a : Act} {w : World} {K : Act → World → Prop} {Q : Exit → Act → World → Prop} {E : Prop} (hgd : o.guard = none) (s x : Operand) (t : TypeId)
    (ho : o.op = .call { callee := .builtin .append, args := #[s, x], argTypes := #[t, t] })
    (k : IntKind) (e : TypeId) (base bytes : Nat) (ht : P.underlying t = some (.slice e)) (hinfo : (P.info? e).map (fun i => (i.zero, i.size, i.bytes)) = some (some (.int k 0), 1, bytes)) (hby : 0 < bytes ∧ bytes ≤ 65536)
    (v : Value) (zs : List Int) (hs : a.eval s = v) (hown : Own k e base w v zs) (vx : Value) (ys : List Int) (hx : a.eval x = vx) (his : Is k w vx ys)
    (hlen : (zs.length + ys.length) * bytes ≤ 150000000000000) (hbase : base ≤ w.heap.size)
    (h : ∀ v' w', Own k e base w' v' (zs ++ ys) → Below base w w' → w.grownBy w' v.ownBlock → K (a.put o.dst v') w') :
    if Region.wanted o (yielded ops a.tmps) = true then Oper.wp P o a w K Q else E := by
  have hw : Region.wanted o (yielded ops a.tmps) = true := by simp [Region.wanted, hgd]
  rw [if_pos hw]
  obtain ⟨i, hi, hz, hsize, hb⟩ := info_parts hinfo
  have hn : zs.length + ys.length ≤ 150000000000000 := Nat.le_trans (Nat.le_mul_of_pos_right _ hby.1) hlen
  have hwf : ∀ z ∈ zs ++ ys, (Lit.int k z).wf = true := by
    intro z hz
    rcases List.mem_append.1 hz with hz | hz
    · exact hown.1 z hz
    · exact his.1 z hz
  rcases his.2 with ⟨hv, hy⟩ | ⟨ad, cap, hv, h1, h2, hc⟩
  · subst hy
    have hrun := run_append_owned_none (P := P) (w := w) base t o.type e i 1 ht hi v zs.length _ hown.2
    have hk := h v w ⟨hwf, by simpa using hown.2⟩ (Below.refl _ _) (World.grownBy.refl _ _)
    unfold Oper.wp
    simp [execOp, ho, resolve, invoke, builtin, hs, hx.trans hv, hrun, Result.andThen]
    exact hk
  · refine wp_append_wide w s x t ho base e i (.int k 0) 1 bytes ht hi hz hsize hb rfl (by decide) hby v zs.length _ hs hown.2 ad ys.length cap (ys.map (Value.int k)) (hx.trans hv) (by simp) ?_ (ints_oneCell k ys) hlen hbase ?_
    · intro j u hj
      rw [List.getElem?_map, Option.map_eq_some_iff] at hj
      obtain ⟨z, hz, rfl⟩ := hj
      obtain ⟨hj, hz⟩ := List.getElem?_eq_some_iff.1 hz
      rw [hc j hj, List.getD_eq_getElem?_getD, List.getElem?_eq_getElem hj, hz]
      rfl
    · intro v' w' ho' hg
      refine h v' w' ⟨hwf, by simpa [List.map_append] using ho'⟩ ((Below.refl _ _).grown hg hbase fun k' hk => ?_) hg
      exact (hown.2.lt k' hk).1

theorem grown_of_below {w w' : World} (h : Below w.heap.size w w') (row : Option Nat) : w.grownBy w' row := ⟨h.os, h.tape, h.output, h.size, fun i hi _ => h.block i hi⟩

theorem grown_setCell (w : World) (a : Addr) (u : Value) : w.grownBy (w.setCell a u) (some a.block) :=
  ⟨rfl, rfl, rfl, by simp [World.setCell], fun i _ hne => Below.heap_setCell _ _ _ _ (fun e => hne (by rw [e]))⟩

theorem set_cells {w : World} {g : Nat} {cs : Array Value} {t : TypeId} {fr : Nat × Nat} (hg : w.heap[g]? = some (.cells cs t fr)) (j : Nat) (u : Value) : (w.setCell ⟨g, j, none⟩ u).heap[g]? = some (.cells (cs.setIfInBounds j u) t fr) := by
  simp [World.setCell, Array.getElem?_modify, hg]

end Go.Proofs.YtgcdibglkbfjdaaGreatDoor
