/- Texts of one layer, one behind the other. -/
import Derived.Test.YtmmfakpphjjjfaaGreatG10
import Derived.Test.YtmmfakpphjjjfaaGreatG6
import Derived.Test.YtmmfakpphjjjfaaGreatG4
import Derived.Deep.RegionHeld
import Derived.KernelRfl
import Derived.Test.YtmmfakpphjjjfaaGreatProg
import Derived.Test.YtmmfakpphjjjfaaGreatG11
import Derived.Test.YtmmfakpphjjjfaaGreatG9
/- 'append' of ops and of rows of runs or commits, as one step. No program. -/
namespace Go.Proofs.YtmmfakpphjjjfaaGreat
open Go.RowKit
set_option linter.unusedVariables false

section
variable {P : Program} {w : World}

theorem run_append_ops_at (t ty e : TypeId) (base : Nat) (ht : P.underlying t = some (.slice e)) (hinfo : (P.info? e).map (fun i => (i.zero, i.size, i.bytes)) = some (some (.agg #[.bool false, .string ⟨#[]⟩, .string ⟨#[]⟩]), 3, 40))
  (v : Value) (l : List Bm.Ov) (hown : OwnO e base w v l) (vx : Value) (m : List Bm.Ov) (his : IsO w vx m) (hlen : (l.length + m.length) * 40 ≤ 140737488355328) (hbase : base ≤ w.heap.size) :
  ∃ v' w', (Builtin.append_ #[t, t] ty #[v, vx]).run P w = .ok v' w' ∧ OwnO e base w' v' (l ++ m) ∧ w.grownBy w' v.ownBlock ∧ (v'.ownBlock = v.ownBlock ∨ v'.ownBlock = some w.heap.size) := by
 obtain ⟨i, hi, hz, hsize, hb⟩ := info_parts hinfo
 rcases his with ⟨hv, hy⟩ | ⟨ad, cap, hv, h1, h2, hc⟩
 ·subst hy hv
  have hrun := run_append_owned_none (P := P) (w := w) base t ty e i 3 ht hi v l.length _ hown
  exact ⟨v, w, hrun, by simpa using hown, World.grownBy.refl _ _, .inl rfl⟩
 ·subst hv
  obtain ⟨v', w', hr, h3, h4, _, h5⟩ := run_append_own_at (P := P) w base t ty e i _ 3 40 ht hi hz hsize hb rfl (by decide) v l.length _ hown ad m.length cap (ocells m) (ocells_len m) hc (ocells_cell m) (by unfold maxLen; omega) hlen hbase
  exact ⟨v', w', hr, by unfold OwnO; rw [ocells_app, List.length_append]; exact h3, h4, h5⟩

theorem run_append_coms_at (t ty e : TypeId) (base : Nat) (ht : P.underlying t = some (.slice e)) (hinfo : (P.info? e).map (fun i => (i.zero, i.size, i.bytes)) = some (some (.agg #[.int .i64 0, .int .i64 0, .slice none 0 0]), 3, 40))
  (v : Value) (l : List Cw) (hown : OwnR e base w v l) (vx : Value) (m : List Cw) (his : RowC w vx m) (hone : ∀ c ∈ m, c.v.oneCell' = true) (hlen : (l.length + m.length) * 40 ≤ 140737488355328) (hbase : base ≤ w.heap.size) :
  ∃ v' w', (Builtin.append_ #[t, t] ty #[v, vx]).run P w = .ok v' w' ∧ OwnR e base w' v' (l ++ m) ∧ w.grownBy w' v.ownBlock ∧ (v'.ownBlock = v.ownBlock ∨ v'.ownBlock = some w.heap.size) := by
 obtain ⟨i, hi, hz, hsize, hb⟩ := info_parts hinfo
 rcases his with ⟨hv, hy⟩ | ⟨ad, cap, hv, h1, h2, hc⟩
 ·subst hy hv
  have hrun := run_append_owned_none (P := P) (w := w) base t ty e i 3 ht hi v l.length _ hown
  exact ⟨v, w, hrun, by simpa using hown, World.grownBy.refl _ _, .inl rfl⟩
 ·subst hv
  obtain ⟨v', w', hr, h3, h4, _, h5⟩ := run_append_own_at (P := P) w base t ty e i _ 3 40 ht hi hz hsize hb rfl (by decide) v l.length _ hown ad m.length cap (ccells m) (ccells_len m) hc (ccells_cell m hone) (by unfold maxLen; omega) hlen hbase
  exact ⟨v', w', hr, by unfold OwnR; rw [ccells_app, List.length_append]; exact h3, h4, h5⟩

end

def regAt (k : Nat) : Code → Array Oper
 | .region id ops _ => if id = k then ops else #[]
 | .seq a b => if (regAt k a).size = 0 then regAt k b else regAt k a
 | .scope a => regAt k a
 | .block _ a => regAt k a
 | .loop a => regAt k a
 | .cond _ a b => if (regAt k a).size = 0 then regAt k b else regAt k a
 | .rangeFunc _ _ a b => if (regAt k a).size = 0 then regAt k b else regAt k a
 | _ => #[]
def regOf (k : Nat) (f : Func) : Array Oper := match f.body with
 | some c => regAt k c
 | none => #[]

def lst (n m : Nat) : Array Bool := ((List.range n).map (fun j => m.testBit j)).toArray

section
variable {P : Program} {ops : Array Oper} {Q : Exit → Act → World → Prop} {S : World → Prop} {md : Region.Mode}

def seqW (P : Program) (ops : Array Oper) (Q : Exit → Act → World → Prop) (S : World → Prop) : List (Bool × Nat) → Act → World → Prop
 | [], a, w => Q .normal a w
 | (true, i) :: r, a, w => ∃ oi v t, ops[i]? = some oi ∧ oi.dst = some t ∧ YieldsIf P ops S oi v a ∧ seqW P ops Q S r (a.put (some t) v) w
 | (false, i) :: r, a, w => wpOp P ops Q i (fun a' w' => S w' ∧ seqW P ops Q S r a' w') a w

def Way (md : Region.Mode) (ops : Array Oper) : Array Bool → List (Bool × Nat) → Prop
 | L, [] => Region.ready md ops L = []
 | L, (true, i) :: r => ∃ L', (Region.free md ops L i = true ∧ (Region.ready md ops L).contains i = true ∧ L.setIfInBounds i true = L') ∧ Way md ops L' r
 | L, (false, i) :: r => ∃ L', (Region.ready md ops L = [i] ∧ L.setIfInBounds i true = L') ∧ Way md ops L' r

theorem Way.done {L : Array Bool} (h : Region.ready md ops L = []) : Way md ops L [] := h
theorem Way.take {L L' : Array Bool} {i : Nat} {r : List (Bool × Nat)} (h : Region.free md ops L i = true ∧ (Region.ready md ops L).contains i = true ∧ L.setIfInBounds i true = L') (k : Way md ops L' r) : Way md ops L ((true, i) :: r) := ⟨L', h, k⟩
theorem Way.meet {L L' : Array Bool} {i : Nat} {r : List (Bool × Nat)} (h : Region.ready md ops L = [i] ∧ L.setIfInBounds i true = L') (k : Way md ops L' r) : Way md ops L ((false, i) :: r) := ⟨L', h, k⟩

theorem way_held (hs : Region.noSelect ops = true) (hQ : ∀ c a t v w, Q (.panic c) (Act.put a (some t) v) w → Q (.panic c) a w) : ∀ (l : List (Bool × Nat)) (L : Array Bool) (a : Act) (w : World), Way md ops L l → S w → seqW P ops Q S l a w → wpAnyH P md ops Q S l.length L a w
 | [], L, a, w, hr, hS, h => ⟨hr, h⟩
 | (true, i) :: r, L, a, w, ⟨L', ⟨h1, h2, h3⟩, k⟩, hS, ⟨oi, v, t, e1, e0, e2, e3⟩ => wpAnyH_take e1 hs h1 h2 (by rw [e0]; exact fun c a w => hQ c a _ _ w) e2 hS (by rw [h3, e0]; exact way_held hs hQ r _ _ _ k hS e3)
 | (false, i) :: r, L, a, w, ⟨L', ⟨h1, h3⟩, k⟩, hS, h => wpAnyH_all h1 (by simp) (fun j hj => by
   rw [List.mem_singleton.1 hj]
   exact wpOp_mono (fun a' w' h' => ⟨h'.1, by rw [h3]; exact way_held hs hQ r _ a' w' k h'.1 h'.2⟩) h)

theorem region_way {id : Nat} {a : Act} {w : World} (hm : P.follows .mixedOrders = true) (hs : Region.noSelect ops = true) (hQ : ∀ c a t v w, Q (.panic c) (Act.put a (some t) v) w → Q (.panic c) a w) (l : List (Bool × Nat)) (hl : l.length = ops.size) (hw : Way .any ops (Array.replicate ops.size false) l) (hS : S w.drew) (h : seqW P ops Q S l a w.drew) : (Code.region id ops true).wp P Q a w := by
 refine wp_region_held_drew (S := S) hm hS fun _ => ?_
 rw [← hl]
 have := way_held hs hQ l _ a w.drew hw hS h
 rwa [← hl] at this

theorem op_at {i : Nat} {o : Oper} (h : (ops.toList.drop i).head? = some o) : ops[i]? = some o := by
 rw [List.head?_drop] at h
 simpa using h

theorem seq_take {i : Nat} {r : List (Bool × Nat)} {a : Act} {w : World} {oi : Oper} {v : Value} {t : Tmp} (hi : (ops.toList.drop i).head? = some oi) (ht : oi.dst = some t) (hw : Region.wanted oi (yielded ops a.tmps) = true) (hy : ∀ w, S w → (execOp a.eval oi).run P w = .ok (.value v) w) (h : seqW P ops Q S r (a.put (some t) v) w) : seqW P ops Q S ((true, i) :: r) a w := ⟨oi, v, t, op_at hi, ht, .inl ⟨hw, hy⟩, h⟩

theorem seq_skip {i : Nat} {r : List (Bool × Nat)} {a : Act} {w : World} {oi : Oper} {t : Tmp} (hi : (ops.toList.drop i).head? = some oi) (ht : oi.dst = some t) (hw : Region.wanted oi (yielded ops a.tmps) = false) (h : seqW P ops Q S r (a.put (some t) undef) w) : seqW P ops Q S ((true, i) :: r) a w := ⟨oi, undef, t, op_at hi, ht, .inr ⟨hw, rfl⟩, h⟩

theorem seq_meet {i : Nat} {r : List (Bool × Nat)} {a : Act} {w : World} {o : Oper} (ho : (ops.toList.drop i).head? = some o) (hw : Region.wanted o (yielded ops a.tmps) = true) (h : ∀ K' : Act → World → Prop, Shut (∀ a w, S w → seqW P ops Q S r a w → K' a w) → Oper.wp P o a w K' Q) : seqW P ops Q S ((false, i) :: r) a w :=
 wpOp_step (op_at ho) (fun K' hK => by
  rw [if_pos hw]
  exact h K' (fun a w hS hW => hK a w ⟨hS, hW⟩))

end

section
variable {P : Program} {ops : Array Oper} {Q : Exit → Act → World → Prop} {S : World → Prop}

theorem any_take {L L' : Array Bool} {i n : Nat} {a : Act} {w : World} {oi : Oper} {v : Value} {t : Tmp} (st : Region.free .any ops L i = true ∧ (Region.ready .any ops L).contains i = true ∧ L.setIfInBounds i true = L') (hs : Region.noSelect ops = true) (hQ : ∀ c a t v w, Q (.panic c) (Act.put a (some t) v) w → Q (.panic c) a w) (hS : S w) (hi : (ops.toList.drop i).head? = some oi) (ht : oi.dst = some t) (hw : Region.wanted oi (yielded ops a.tmps) = true) (hy : ∀ w, S w → (execOp a.eval oi).run P w = .ok (.value v) w) (h : wpAnyH P .any ops Q S n L' (a.put (some t) v) w) : wpAnyH P .any ops Q S (n + 1) L a w :=
 wpAnyH_take (op_at hi) hs st.1 st.2.1 (by rw [ht]; exact fun c a w => hQ c a _ _ w) (.inl ⟨hw, hy⟩) hS (by rw [st.2.2, ht]; exact h)

theorem any_one {L L' : Array Bool} {i n : Nat} {a : Act} {w : World} (st : Region.ready .any ops L = [i] ∧ L.setIfInBounds i true = L') (h : wpOp P ops Q i (fun a' w' => S w' ∧ wpAnyH P .any ops Q S n L' a' w') a w) : wpAnyH P .any ops Q S (n + 1) L a w :=
 wpAnyH_all st.1 (by simp) (fun j hj => by
  rw [List.mem_singleton.1 hj, st.2]
  exact h)

theorem any_two {L Li Lj : Array Bool} {i j n : Nat} {a : Act} {w : World} (st : Region.ready .any ops L = [i, j] ∧ L.setIfInBounds i true = Li ∧ L.setIfInBounds j true = Lj) (hi : wpOp P ops Q i (fun a' w' => S w' ∧ wpAnyH P .any ops Q S n Li a' w') a w) (hj : wpOp P ops Q j (fun a' w' => S w' ∧ wpAnyH P .any ops Q S n Lj a' w') a w) : wpAnyH P .any ops Q S (n + 1) L a w :=
 wpAnyH_all st.1 (by simp) (fun x hx => by
  simp only [List.mem_cons, List.not_mem_nil, or_false] at hx
  rcases hx with rfl | rfl
  ·rw [st.2.1]
   exact hi
  ·rw [st.2.2]
   exact hj)

theorem any_three {L Li Lj Lk : Array Bool} {i j k n : Nat} {a : Act} {w : World} (st : Region.ready .any ops L = [i, j, k] ∧ L.setIfInBounds i true = Li ∧ L.setIfInBounds j true = Lj ∧ L.setIfInBounds k true = Lk) (hi : wpOp P ops Q i (fun a' w' => S w' ∧ wpAnyH P .any ops Q S n Li a' w') a w) (hj : wpOp P ops Q j (fun a' w' => S w' ∧ wpAnyH P .any ops Q S n Lj a' w') a w) (hk : wpOp P ops Q k (fun a' w' => S w' ∧ wpAnyH P .any ops Q S n Lk a' w') a w) : wpAnyH P .any ops Q S (n + 1) L a w :=
 wpAnyH_all st.1 (by simp) (fun x hx => by
  simp only [List.mem_cons, List.not_mem_nil, or_false] at hx
  rcases hx with rfl | rfl | rfl
  ·rw [st.2.1]
   exact hi
  ·rw [st.2.2.1]
   exact hj
  ·rw [st.2.2.2]
   exact hk)

theorem any_done {L : Array Bool} {a : Act} {w : World} (h : Region.ready .any ops L = []) (k : Q .normal a w) : wpAnyH P .any ops Q S 0 L a w := ⟨h, k⟩

theorem any_op {L : Array Bool} {i n : Nat} {a : Act} {w : World} {o : Oper} (ho : (ops.toList.drop i).head? = some o) (hw : Region.wanted o (yielded ops a.tmps) = true) (h : ∀ K' : Act → World → Prop, Shut (∀ a w, S w → wpAnyH P .any ops Q S n L a w → K' a w) → Oper.wp P o a w K' Q) : wpOp P ops Q i (fun a' w' => S w' ∧ wpAnyH P .any ops Q S n L a' w') a w := by
 have hs := h (fun a' w' => S w' ∧ wpAnyH P .any ops Q S n L a' w') (fun a w h1 h2 => ⟨h1, h2⟩)
 unfold wpOp
 rw [op_at ho]
 simp only [hw, if_true]
 exact .inl hs

theorem any_append {L : Array Bool} {i n : Nat} {a : Act} {w w' : World} {o : Oper} {v vx v' : Value} (ho : (ops.toList.drop i).head? = some o) (hw : Region.wanted o (yielded ops a.tmps) = true) (s x : Operand) (t : TypeId) (hop : o.op = .call { callee := .builtin .append, args := #[s, x], argTypes := #[t, t] }) (hs : a.eval s = v) (hx : a.eval x = vx) (hr : (Builtin.append_ #[t, t] o.type #[v, vx]).run P w = .ok v' w') (h : S w' ∧ wpAnyH P .any ops Q S n L (a.put o.dst v') w') : wpOp P ops Q i (fun a' w' => S w' ∧ wpAnyH P .any ops Q S n L a' w') a w := by
 unfold wpOp
 rw [op_at ho]
 simp only [hw, if_true]
 refine .inl ?_
 unfold Oper.wp execOp
 simp only [hop, resolve, invoke, builtin, Sem.run_bind, Sem.run_pure, Result.andThen_ok, List.map_toArray, List.map_cons, List.map_nil, hs, hx, hr]
 exact h

theorem region_any {id n : Nat} {a : Act} {w : World} (hm : P.follows .mixedOrders = true) (hn : ops.size = n) (h : wpAnyH P .any ops Q S n (Array.replicate n false) a w.drew) : (Code.region id ops true).wp P Q a w := by
 subst hn
 exact wp_region_held (S := S) hm h

end

theorem wyh_new : Array.replicate 10 false = lst 10 0 := by kernel_rfl

theorem wyh_size : (regOf 2 Tryz.f138).size = 10 := by kernel_rfl

theorem wyh_t0 : Region.free .any (regOf 2 Tryz.f138) (lst 10 0) 0 = true ∧ (Region.ready .any (regOf 2 Tryz.f138) (lst 10 0)).contains 0 = true ∧ (lst 10 0).setIfInBounds 0 true = lst 10 1 := ⟨by kernel_rfl, by kernel_rfl, by kernel_rfl⟩

theorem wyh_t1 : Region.free .any (regOf 2 Tryz.f138) (lst 10 1) 1 = true ∧ (Region.ready .any (regOf 2 Tryz.f138) (lst 10 1)).contains 1 = true ∧ (lst 10 1).setIfInBounds 1 true = lst 10 3 := ⟨by kernel_rfl, by kernel_rfl, by kernel_rfl⟩

theorem wyh_t3 : Region.free .any (regOf 2 Tryz.f138) (lst 10 3) 2 = true ∧ (Region.ready .any (regOf 2 Tryz.f138) (lst 10 3)).contains 2 = true ∧ (lst 10 3).setIfInBounds 2 true = lst 10 7 := ⟨by kernel_rfl, by kernel_rfl, by kernel_rfl⟩

theorem wyh_t7 : Region.free .any (regOf 2 Tryz.f138) (lst 10 7) 3 = true ∧ (Region.ready .any (regOf 2 Tryz.f138) (lst 10 7)).contains 3 = true ∧ (lst 10 7).setIfInBounds 3 true = lst 10 15 := ⟨by kernel_rfl, by kernel_rfl, by kernel_rfl⟩

theorem wyh_t15 : Region.free .any (regOf 2 Tryz.f138) (lst 10 15) 4 = true ∧ (Region.ready .any (regOf 2 Tryz.f138) (lst 10 15)).contains 4 = true ∧ (lst 10 15).setIfInBounds 4 true = lst 10 31 := ⟨by kernel_rfl, by kernel_rfl, by kernel_rfl⟩

theorem wyh_t31 : Region.free .any (regOf 2 Tryz.f138) (lst 10 31) 5 = true ∧ (Region.ready .any (regOf 2 Tryz.f138) (lst 10 31)).contains 5 = true ∧ (lst 10 31).setIfInBounds 5 true = lst 10 63 := ⟨by kernel_rfl, by kernel_rfl, by kernel_rfl⟩

theorem wyh_t63 : Region.free .any (regOf 2 Tryz.f138) (lst 10 63) 6 = true ∧ (Region.ready .any (regOf 2 Tryz.f138) (lst 10 63)).contains 6 = true ∧ (lst 10 63).setIfInBounds 6 true = lst 10 127 := ⟨by kernel_rfl, by kernel_rfl, by kernel_rfl⟩

theorem wyh_o127 : Region.ready .any (regOf 2 Tryz.f138) (lst 10 127) = [7] ∧ (lst 10 127).setIfInBounds 7 true = lst 10 255 := ⟨by kernel_rfl, by kernel_rfl⟩

theorem wyh_t255 : Region.free .any (regOf 2 Tryz.f138) (lst 10 255) 8 = true ∧ (Region.ready .any (regOf 2 Tryz.f138) (lst 10 255)).contains 8 = true ∧ (lst 10 255).setIfInBounds 8 true = lst 10 511 := ⟨by kernel_rfl, by kernel_rfl, by kernel_rfl⟩

theorem wyh_o511 : Region.ready .any (regOf 2 Tryz.f138) (lst 10 511) = [9] ∧ (lst 10 511).setIfInBounds 9 true = lst 10 1023 := ⟨by kernel_rfl, by kernel_rfl⟩

theorem wyh_end : Region.ready .any (regOf 2 Tryz.f138) (lst 10 1023) = [] := by kernel_rfl

theorem wyi_new : Array.replicate 14 false = lst 14 0 := by kernel_rfl

theorem wyi_size : (regOf 3 Tryz.f44).size = 14 := by kernel_rfl

theorem wyi_t0 : Region.free .any (regOf 3 Tryz.f44) (lst 14 0) 0 = true ∧ (Region.ready .any (regOf 3 Tryz.f44) (lst 14 0)).contains 0 = true ∧ (lst 14 0).setIfInBounds 0 true = lst 14 1 := ⟨by kernel_rfl, by kernel_rfl, by kernel_rfl⟩

theorem wyi_t1 : Region.free .any (regOf 3 Tryz.f44) (lst 14 1) 1 = true ∧ (Region.ready .any (regOf 3 Tryz.f44) (lst 14 1)).contains 1 = true ∧ (lst 14 1).setIfInBounds 1 true = lst 14 3 := ⟨by kernel_rfl, by kernel_rfl, by kernel_rfl⟩

theorem wyi_t3 : Region.free .any (regOf 3 Tryz.f44) (lst 14 3) 2 = true ∧ (Region.ready .any (regOf 3 Tryz.f44) (lst 14 3)).contains 2 = true ∧ (lst 14 3).setIfInBounds 2 true = lst 14 7 := ⟨by kernel_rfl, by kernel_rfl, by kernel_rfl⟩

theorem wyi_t7 : Region.free .any (regOf 3 Tryz.f44) (lst 14 7) 3 = true ∧ (Region.ready .any (regOf 3 Tryz.f44) (lst 14 7)).contains 3 = true ∧ (lst 14 7).setIfInBounds 3 true = lst 14 15 := ⟨by kernel_rfl, by kernel_rfl, by kernel_rfl⟩

theorem wyi_t15 : Region.free .any (regOf 3 Tryz.f44) (lst 14 15) 4 = true ∧ (Region.ready .any (regOf 3 Tryz.f44) (lst 14 15)).contains 4 = true ∧ (lst 14 15).setIfInBounds 4 true = lst 14 31 := ⟨by kernel_rfl, by kernel_rfl, by kernel_rfl⟩

theorem wyi_t31 : Region.free .any (regOf 3 Tryz.f44) (lst 14 31) 5 = true ∧ (Region.ready .any (regOf 3 Tryz.f44) (lst 14 31)).contains 5 = true ∧ (lst 14 31).setIfInBounds 5 true = lst 14 63 := ⟨by kernel_rfl, by kernel_rfl, by kernel_rfl⟩

theorem wyi_t63 : Region.free .any (regOf 3 Tryz.f44) (lst 14 63) 6 = true ∧ (Region.ready .any (regOf 3 Tryz.f44) (lst 14 63)).contains 6 = true ∧ (lst 14 63).setIfInBounds 6 true = lst 14 127 := ⟨by kernel_rfl, by kernel_rfl, by kernel_rfl⟩

theorem wyi_t127 : Region.free .any (regOf 3 Tryz.f44) (lst 14 127) 7 = true ∧ (Region.ready .any (regOf 3 Tryz.f44) (lst 14 127)).contains 7 = true ∧ (lst 14 127).setIfInBounds 7 true = lst 14 255 := ⟨by kernel_rfl, by kernel_rfl, by kernel_rfl⟩

theorem wyi_t255 : Region.free .any (regOf 3 Tryz.f44) (lst 14 255) 8 = true ∧ (Region.ready .any (regOf 3 Tryz.f44) (lst 14 255)).contains 8 = true ∧ (lst 14 255).setIfInBounds 8 true = lst 14 511 := ⟨by kernel_rfl, by kernel_rfl, by kernel_rfl⟩

theorem wyi_t511 : Region.free .any (regOf 3 Tryz.f44) (lst 14 511) 9 = true ∧ (Region.ready .any (regOf 3 Tryz.f44) (lst 14 511)).contains 9 = true ∧ (lst 14 511).setIfInBounds 9 true = lst 14 1023 := ⟨by kernel_rfl, by kernel_rfl, by kernel_rfl⟩

theorem wyi_t1023 : Region.free .any (regOf 3 Tryz.f44) (lst 14 1023) 10 = true ∧ (Region.ready .any (regOf 3 Tryz.f44) (lst 14 1023)).contains 10 = true ∧ (lst 14 1023).setIfInBounds 10 true = lst 14 2047 := ⟨by kernel_rfl, by kernel_rfl, by kernel_rfl⟩

theorem wyi_t2047 : Region.free .any (regOf 3 Tryz.f44) (lst 14 2047) 11 = true ∧ (Region.ready .any (regOf 3 Tryz.f44) (lst 14 2047)).contains 11 = true ∧ (lst 14 2047).setIfInBounds 11 true = lst 14 4095 := ⟨by kernel_rfl, by kernel_rfl, by kernel_rfl⟩

theorem wyi_t4095 : Region.free .any (regOf 3 Tryz.f44) (lst 14 4095) 12 = true ∧ (Region.ready .any (regOf 3 Tryz.f44) (lst 14 4095)).contains 12 = true ∧ (lst 14 4095).setIfInBounds 12 true = lst 14 8191 := ⟨by kernel_rfl, by kernel_rfl, by kernel_rfl⟩

theorem wyi_t8191 : Region.free .any (regOf 3 Tryz.f44) (lst 14 8191) 13 = true ∧ (Region.ready .any (regOf 3 Tryz.f44) (lst 14 8191)).contains 13 = true ∧ (lst 14 8191).setIfInBounds 13 true = lst 14 16383 := ⟨by kernel_rfl, by kernel_rfl, by kernel_rfl⟩

theorem wyi_end : Region.ready .any (regOf 3 Tryz.f44) (lst 14 16383) = [] := by kernel_rfl

end Go.Proofs.YtmmfakpphjjjfaaGreat

/- The document's runs in memory. -/
namespace Go.Proofs.YtmmfakpphjjjfaaGreat
open Go.RowKit
open Bm (Ov)
set_option linter.unusedVariables false

structure XrV (x y : Nat) (w : World) (l : List Cm.Cv) (bk : Bool) (v : Value) (rs : List Cw) : Prop where
 blk : w.heap[x]? = some (.cells #[.bool true, .pointer (some ⟨y, 0, none⟩), v, .bool bk] 85 (0, 0))
 log : Rq 0 w l v rs

theorem XrV.below {x y : Nat} {w w' : World} {l : List Cm.Cv} {bk : Bool} {v : Value} {rs : List Cw} (h : XrV x y w l bk v rs) (hb : Below w.heap.size w w') : XrV x y w' l bk v rs := ⟨(hb.block x (blk_lt h.blk)).trans h.blk, h.log.below hb⟩

theorem xnone_any (x : Nat) (w : World) (hc : w.cell? ⟨x, 0, none⟩ = some (.bool true)) :
  Calls Tryz.prog 84 #[.pointer (some ⟨x, 0, none⟩)] w fun E w' => E = .returned (.bool false) ∧ w = w' := by
 go_enter Tryz.func84, Tryz.ntmps84
 go_wp2
 go_ret
 exact ⟨rfl, rfl⟩

theorem xlast {l : List Cm.Cv} {k : Nat} {c : Cm.Cv} (hk : l[k]? = some c) (hl : l.length = k + 1) (e : Int) : Cm.lastN e l = c.n := by
 rcases List.eq_nil_or_concat l with rfl | ⟨r, d, rfl⟩
 ·simp at hk
 ·rw [List.concat_eq_append] at hk hl ⊢
  rw [Rl.last_snoc]
  have : k = r.length := by simp at hl; omega
  subst this
  simp at hk
  rw [hk]

set_option maxRecDepth 20000 in
set_option maxHeartbeats 1000000 in
theorem xend_any (x y : Nat) (w : World) (l : List Cm.Cv) (bk : Bool) (v : Value) (rs : List Cw) (h : XrV x y w l bk v rs) :
  Calls Tryz.prog 44 #[.pointer (some ⟨x, 0, none⟩)] w fun E w' => E = .returned (.int .i64 (Cm.lastN 0 l)) ∧ ∃ m, w' = w.drewN m := by
 have c0 : w.cell? ⟨x, 0, none⟩ = some (.bool true) := blk_cell h.blk 0 rfl
 have c2 : w.cell? ⟨x, 2, none⟩ = some v := blk_cell h.blk 2 rfl
 have HN := hide (xnone_any x w c0)
 obtain ⟨a1, k1, hv, _, _⟩ := h.log.row.row.shape
 have hll := h.log.len_le
 by_cases h0 : rs.length = 0
 ·have hl0 : l = [] := List.eq_nil_of_length_eq_zero (by rw [← h.log.len]; exact h0)
  subst hl0
  rw [hv, h0] at c2
  clear h hv
  go_enter Tryz.func44, Tryz.ntmps44
  go_wp2_with fail
  refine HN.out.mono ?_
  rintro E w1 ⟨rfl, rfl⟩
  go_wp2
  go_ret
  exact ⟨rfl, by first | exact ⟨0, rfl⟩ | exact ⟨1, rfl⟩⟩
 ·obtain ⟨gb, go, gk, hvx, _, _, _, hrow⟩ := h.log.row.row.full (by omega)
  obtain ⟨y1, hy⟩ : ∃ y, rs.length = y + 1 := ⟨rs.length - 1, by omega⟩
  obtain ⟨c, hcy⟩ : ∃ c, rs[y1]? = some c := ⟨rs[y1]'(by omega), by rw [List.getElem?_eq_getElem]⟩
  obtain ⟨_, x1, _⟩ := hrow y1 c hcy
  have hlast := xlast (h.log.at hcy) (by rw [← h.log.len]; exact hy) 0
  rw [hlast]
  rw [hvx] at c2
  have hn : c.c.n = c.n := rfl
  rw [hn]
  have hwy : IntKind.i64.wrap ((rs.length : Int) - 1) = (y1 : Int) := by rw [wrap_i64_small _ (by omega) (by omega)]; omega
  have hy1 : (y1 : Int) < (rs.length : Int) := by omega
  have hy0 : ¬ (rs.length : Int) = 0 := by omega
  have hyb : ((rs.length : Int) == 0) = false := by rw [beq_eq_false_iff_ne]; omega
  generalize rs.length = n at *
  have hyz : (0 : Int) ≤ (y1 : Int) := by omega
  clear h hv hvx hrow hcy hlast hy
  go_enter Tryz.func44, Tryz.ntmps44
  go_wp2_with fail
  refine HN.out.mono ?_
  rintro E w1 ⟨rfl, rfl⟩
  go_wp2_with fail
  refine region_any (ops := (regOf 3 Tryz.f44)) (S := fun W => W.cell? ⟨x, 2, none⟩ = some (.slice (some ⟨gb, go, none⟩) n gk) ∧ W.cell? ⟨gb, go + y1 * 3 + 1, none⟩ = some (.int .i64 c.n)) (by kernel_rfl) wyi_size ?_
  rw [wyi_new]
  refine any_take (v := ?_) wyi_t0 (by kernel_rfl) (fun _ _ _ _ _ h => h) ⟨c2, x1⟩ rfl rfl (by rfl) ?_ ?_
  rotate_left 1
  ·intro w hS
   (try dsimp only at hS)
   go_simp
   all_goals with_reducible rfl
  simp only [Act.put, List.setIfInBounds_toArray, List.set_cons_zero, List.set_cons_succ]
  refine any_take (v := ?_) wyi_t1 (by kernel_rfl) (fun _ _ _ _ _ h => h) ⟨c2, x1⟩ rfl rfl (by rfl) ?_ ?_
  rotate_left 1
  ·intro w hS
   (try dsimp only at hS)
   go_simp
   all_goals with_reducible rfl
  simp only [Act.put, List.setIfInBounds_toArray, List.set_cons_zero, List.set_cons_succ]
  refine any_take (v := ?_) wyi_t3 (by kernel_rfl) (fun _ _ _ _ _ h => h) ⟨c2, x1⟩ rfl rfl (by rfl) ?_ ?_
  rotate_left 1
  ·intro w hS
   (try dsimp only at hS)
   go_simp
   all_goals with_reducible rfl
  simp only [Act.put, List.setIfInBounds_toArray, List.set_cons_zero, List.set_cons_succ]
  refine any_take (v := ?_) wyi_t7 (by kernel_rfl) (fun _ _ _ _ _ h => h) ⟨c2, x1⟩ rfl rfl (by rfl) ?_ ?_
  rotate_left 1
  ·intro w hS
   (try dsimp only at hS)
   go_simp
   all_goals with_reducible rfl
  simp only [Act.put, List.setIfInBounds_toArray, List.set_cons_zero, List.set_cons_succ]
  refine any_take (v := ?_) wyi_t15 (by kernel_rfl) (fun _ _ _ _ _ h => h) ⟨c2, x1⟩ rfl rfl (by rfl) ?_ ?_
  rotate_left 1
  ·intro w hS
   (try dsimp only at hS)
   go_simp
   all_goals with_reducible rfl
  simp only [Act.put, List.setIfInBounds_toArray, List.set_cons_zero, List.set_cons_succ]
  refine any_take (v := ?_) wyi_t31 (by kernel_rfl) (fun _ _ _ _ _ h => h) ⟨c2, x1⟩ rfl rfl (by rfl) ?_ ?_
  rotate_left 1
  ·intro w hS
   (try dsimp only at hS)
   go_simp
   all_goals with_reducible rfl
  simp only [Act.put, List.setIfInBounds_toArray, List.set_cons_zero, List.set_cons_succ]
  refine any_take (v := ?_) wyi_t63 (by kernel_rfl) (fun _ _ _ _ _ h => h) ⟨c2, x1⟩ rfl rfl (by rfl) ?_ ?_
  rotate_left 1
  ·intro w hS
   (try dsimp only at hS)
   go_simp
   all_goals with_reducible rfl
  simp only [Act.put, List.setIfInBounds_toArray, List.set_cons_zero, List.set_cons_succ]
  refine any_take (v := ?_) wyi_t127 (by kernel_rfl) (fun _ _ _ _ _ h => h) ⟨c2, x1⟩ rfl rfl (by rfl) ?_ ?_
  rotate_left 1
  ·intro w hS
   (try dsimp only at hS)
   go_simp
   all_goals with_reducible rfl
  simp only [Act.put, List.setIfInBounds_toArray, List.set_cons_zero, List.set_cons_succ]
  refine any_take (v := ?_) wyi_t255 (by kernel_rfl) (fun _ _ _ _ _ h => h) ⟨c2, x1⟩ rfl rfl (by rfl) ?_ ?_
  rotate_left 1
  ·intro w hS
   (try dsimp only at hS)
   go_simp
   all_goals with_reducible rfl
  simp only [Act.put, List.setIfInBounds_toArray, List.set_cons_zero, List.set_cons_succ]
  refine any_take (v := ?_) wyi_t511 (by kernel_rfl) (fun _ _ _ _ _ h => h) ⟨c2, x1⟩ rfl rfl (by rfl) ?_ ?_
  rotate_left 1
  ·intro w hS
   (try dsimp only at hS)
   go_simp
   all_goals with_reducible rfl
  simp only [Act.put, List.setIfInBounds_toArray, List.set_cons_zero, List.set_cons_succ]
  refine any_take (v := ?_) wyi_t1023 (by kernel_rfl) (fun _ _ _ _ _ h => h) ⟨c2, x1⟩ rfl rfl (by rfl) ?_ ?_
  rotate_left 1
  ·intro w hS
   (try dsimp only at hS)
   go_simp
   all_goals with_reducible rfl
  simp only [Act.put, List.setIfInBounds_toArray, List.set_cons_zero, List.set_cons_succ]
  refine any_take (v := ?_) wyi_t2047 (by kernel_rfl) (fun _ _ _ _ _ h => h) ⟨c2, x1⟩ rfl rfl (by rfl) ?_ ?_
  rotate_left 1
  ·intro w hS
   (try dsimp only at hS)
   go_simp
   all_goals with_reducible rfl
  simp only [Act.put, List.setIfInBounds_toArray, List.set_cons_zero, List.set_cons_succ]
  refine any_take (v := ?_) wyi_t4095 (by kernel_rfl) (fun _ _ _ _ _ h => h) ⟨c2, x1⟩ rfl rfl (by rfl) ?_ ?_
  rotate_left 1
  ·intro w hS
   (try dsimp only at hS)
   go_simp
   all_goals with_reducible rfl
  simp only [Act.put, List.setIfInBounds_toArray, List.set_cons_zero, List.set_cons_succ]
  refine any_take (v := ?_) wyi_t8191 (by kernel_rfl) (fun _ _ _ _ _ h => h) ⟨c2, x1⟩ rfl rfl (by rfl) ?_ ?_
  rotate_left 1
  ·intro w hS
   (try dsimp only at hS)
   go_simp
   all_goals with_reducible rfl
  simp only [Act.put, List.setIfInBounds_toArray, List.set_cons_zero, List.set_cons_succ]
  refine any_done wyi_end ?_
  go_wp2
  go_ret
  exact ⟨rfl, by first | exact ⟨0, rfl⟩ | exact ⟨1, rfl⟩⟩

set_option maxRecDepth 20000 in
set_option maxHeartbeats 1000000 in
theorem xcopy_any (e n : Int) (v : Value) (l : List Ov) (w : World) (h : IsO w v l) (hl : l.length * 40 ≤ 140737488351232) :
  Calls Tryz.prog 138 #[cmv e n v] w fun E w' => ∃ v', E = .returned (cmv e n v') ∧ OwnO 65 w.heap.size w' v' l ∧ Below w.heap.size w w' := by
 unfold cmv
 obtain ⟨a1, k1, hv, _, _⟩ := h.shape
 obtain ⟨w1, hw1, sz1, bel1, hB1⟩ := blk_step w #[.int .i64 e, .int .i64 n, v] 112
 obtain ⟨w2, hw2, sz2, bel2, hB2⟩ := blk_step w1 #[.int .i64 0, .int .i64 0, .slice none 0 0] 112
 subst hv
 obtain ⟨W0, hW0⟩ : ∃ x, w2.drew = x := ⟨_, rfl⟩
 have b20 : Below w2.heap.size w2 W0 := by rw [← hW0]; exact (Below.refl _ _).drew
 have b02 : Below w.heap.size w w2 := bel1.trans (bel2.mono bel1.size)
 have b00 : Below w.heap.size w W0 := b02.trans (b20.mono b02.size)
 have hR0 := (b20.block w.heap.size (by omega)).trans ((bel2.block w.heap.size (by omega)).trans hB1)
 have hZ0 := (b20.block w1.heap.size (by omega)).trans hB2
 obtain ⟨v1, w3, hr, own1, gr1, at1⟩ := run_append_ops_at (P := Tryz.prog) (w := W0) 48 48 65 W0.heap.size Tryz.underlying48 Tryz.info65 _ [] (OwnO.nil _ _ _) _ l (h.below b00) (by simp; omega) (Nat.le_refl _)
 rw [List.nil_append] at own1
 have b03 : Below W0.heap.size W0 w3 := (Below.refl _ _).grown gr1 (Nat.le_refl _) (fun k hk => by simp [Value.ownBlock] at hk)
 have hR3 := (b03.block w.heap.size (blk_lt hR0)).trans hR0
 have hZ3 := (b03.block w1.heap.size (blk_lt hZ0)).trans hZ0
 obtain ⟨V, hV, bV, gV, ⟨p0, p1, p2⟩, ⟨f0, f1, f2⟩, ⟨z0, z1, z2⟩⟩ := res_step hZ3 (.int .i64 e) (.int .i64 n) v1
 have hRV := (gV.block w.heap.size (blk_lt hR3) (by simp; omega)).trans hR3
 have F0 : W0.cell? ⟨w.heap.size, 0, none⟩ = some (.int .i64 e) ∧ W0.cell? ⟨w.heap.size, 1, none⟩ = some (.int .i64 n) ∧ W0.cell? ⟨w.heap.size, 2, none⟩ = some (.slice a1 l.length k1) := ⟨blk_cell hR0 0 rfl, blk_cell hR0 1 rfl, blk_cell hR0 2 rfl⟩
 have F1 : w3.cell? ⟨w.heap.size, 0, none⟩ = some (.int .i64 e) ∧ w3.cell? ⟨w.heap.size, 1, none⟩ = some (.int .i64 n) ∧ w3.cell? ⟨w.heap.size, 2, none⟩ = some (.slice a1 l.length k1) := ⟨blk_cell hR3 0 rfl, blk_cell hR3 1 rfl, blk_cell hR3 2 rfl⟩
 have F2 : V.cell? ⟨w.heap.size, 0, none⟩ = some (.int .i64 e) ∧ V.cell? ⟨w.heap.size, 1, none⟩ = some (.int .i64 n) ∧ V.cell? ⟨w.heap.size, 2, none⟩ = some (.slice a1 l.length k1) := ⟨blk_cell hRV 0 rfl, blk_cell hRV 1 rfl, blk_cell hRV 2 rfl⟩
 obtain ⟨a3, k3, hv1, _, _⟩ := own1.is.shape
 subst hv1
 have OV : Hid (OwnO 65 w.heap.size V (.slice a3 l.length k3) l) := hide ((own1.kept gV (.inr fun e => by have h1 := (own1.block _ e).1; have := b20.size; omega)).rebase b00.size)
 have BV : Hid (Below w.heap.size w V) := hide (below_put (b00.trans (b03.mono b00.size)) gV (by omega) (Nat.le_trans b00.size b03.size))
 clear own1 at1 gr1 bV gV hRV hR3 hZ3 hR0 hZ0 hB1 hB2 bel1 bel2 b20 b02 b00 b03 h sz1 sz2
 go_enter Tryz.func138, Tryz.ntmps138
 go_wp2_with fail
 refine region_any (ops := (regOf 2 Tryz.f138)) (S := fun W => W.cell? ⟨w.heap.size, 0, none⟩ = some (.int .i64 e) ∧ W.cell? ⟨w.heap.size, 1, none⟩ = some (.int .i64 n) ∧ W.cell? ⟨w.heap.size, 2, none⟩ = some (.slice a1 l.length k1)) (by kernel_rfl) wyh_size ?_
 rw [wyh_new, hW0]
 refine any_take (v := ?_) wyh_t0 (by kernel_rfl) (fun _ _ _ _ _ h => h) F0 rfl rfl (by rfl) ?_ ?_
 rotate_left 1
 ·intro w hS
  (try dsimp only at hS)
  go_simp
  all_goals with_reducible rfl
 simp only [Act.put, List.setIfInBounds_toArray, List.set_cons_zero, List.set_cons_succ]
 refine any_take (v := ?_) wyh_t1 (by kernel_rfl) (fun _ _ _ _ _ h => h) F0 rfl rfl (by rfl) ?_ ?_
 rotate_left 1
 ·intro w hS
  (try dsimp only at hS)
  go_simp
  all_goals with_reducible rfl
 simp only [Act.put, List.setIfInBounds_toArray, List.set_cons_zero, List.set_cons_succ]
 refine any_take (v := ?_) wyh_t3 (by kernel_rfl) (fun _ _ _ _ _ h => h) F0 rfl rfl (by rfl) ?_ ?_
 rotate_left 1
 ·intro w hS
  (try dsimp only at hS)
  go_simp
  all_goals with_reducible rfl
 simp only [Act.put, List.setIfInBounds_toArray, List.set_cons_zero, List.set_cons_succ]
 refine any_take (v := ?_) wyh_t7 (by kernel_rfl) (fun _ _ _ _ _ h => h) F0 rfl rfl (by rfl) ?_ ?_
 rotate_left 1
 ·intro w hS
  (try dsimp only at hS)
  go_simp
  all_goals with_reducible rfl
 simp only [Act.put, List.setIfInBounds_toArray, List.set_cons_zero, List.set_cons_succ]
 refine any_take (v := ?_) wyh_t15 (by kernel_rfl) (fun _ _ _ _ _ h => h) F0 rfl rfl (by rfl) ?_ ?_
 rotate_left 1
 ·intro w hS
  (try dsimp only at hS)
  go_simp
  all_goals with_reducible rfl
 simp only [Act.put, List.setIfInBounds_toArray, List.set_cons_zero, List.set_cons_succ]
 refine any_take (v := ?_) wyh_t31 (by kernel_rfl) (fun _ _ _ _ _ h => h) F0 rfl rfl (by rfl) ?_ ?_
 rotate_left 1
 ·intro w hS
  (try dsimp only at hS)
  go_simp
  all_goals with_reducible rfl
 simp only [Act.put, List.setIfInBounds_toArray, List.set_cons_zero, List.set_cons_succ]
 refine any_take (v := ?_) wyh_t63 (by kernel_rfl) (fun _ _ _ _ _ h => h) F0 rfl rfl (by rfl) ?_ ?_
 rotate_left 1
 ·intro w hS
  (try dsimp only at hS)
  go_simp
  all_goals with_reducible rfl
 simp only [Act.put, List.setIfInBounds_toArray, List.set_cons_zero, List.set_cons_succ]
 refine any_one wyh_o127 ?_
 refine any_append rfl (by rfl) (.tmp 8) (.tmp 10) 48 rfl rfl rfl hr ⟨F1, ?_⟩
 simp only [Act.put, List.setIfInBounds_toArray, List.set_cons_zero, List.set_cons_succ]
 refine any_take (v := ?_) wyh_t255 (by kernel_rfl) (fun _ _ _ _ _ h => h) F1 rfl rfl (by rfl) ?_ ?_
 rotate_left 1
 ·intro w hS
  (try dsimp only at hS)
  go_simp
  all_goals with_reducible rfl
 simp only [Act.put, List.setIfInBounds_toArray, List.set_cons_zero, List.set_cons_succ]
 refine any_one wyh_o511 ?_
 refine any_op rfl (by rfl) (fun K hK => ?_)
 go_simp
 go_wp2_with fail
 refine hK.out _ _ F2 ?_
 clear hK K
 try simp only [Act.put, List.setIfInBounds_toArray, List.set_cons_zero, List.set_cons_succ]
 refine any_done wyh_end ?_
 go_wp2
 refine bodyPost_ret (v := .agg #[.int .i64 e, .int .i64 n, .slice a3 l.length k3]) (by simp [results, Tryz.results138, go_sem, z0, z1, z2]) rfl ?_
 exact ⟨_, rfl, OV.out, BV.out⟩

end Go.Proofs.YtmmfakpphjjjfaaGreat

/- The document's runs: List. -/
namespace Go.Proofs.YtmmfakpphjjjfaaGreat
open Go.RowKit
open Bm (Ov)
set_option linter.unusedVariables false

end Go.Proofs.YtmmfakpphjjjfaaGreat
