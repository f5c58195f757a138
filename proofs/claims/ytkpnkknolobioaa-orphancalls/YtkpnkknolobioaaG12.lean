/- Texts of one layer, one behind the other. -/
import Derived.Test.YtkpnkknolobioaaG6
import Derived.Test.YtkpnkknolobioaaG11
import Derived.Test.YtkpnkknolobioaaG8
import Derived.Maps.AppendAt
import Derived.Test.YtkpnkknolobioaaG5
import Derived.Test.YtkpnkknolobioaaG9
/- The contracts of the program's read and Decode of a commit. -/
namespace Go.Proofs.Ytkpnkknolobioaa
open Go.RowKit
set_option linter.unusedVariables false

/-- What read comes to. -/
def RRes (bs : List Int) (e n : Int) (l : List Bm.Ov) (k g : Int) : Prop :=
  (g = 0 ∧ ∃ x y : Nat, x ≤ 1048576 ∧ y ≤ 1048576 ∧ Vm.enc x <+: bs ∧ Vm.enc y <+: bs.drop (Vm.sz x) ∧ Bm.chkL l = 0 ∧ Bm.encB l <+: bs.drop (Vm.sz x + Vm.sz y) ∧ e = x ∧ n = y ∧ k = ((Vm.sz x + Vm.sz y + (Bm.encB l).length : Nat) : Int)) ∨
  (g = 5 ∧ e = 0 ∧ n = 0 ∧ l = [] ∧ k = 0 ∧ ∀ e' n' l', Cm.chk e' n' l' = 0 → Cm.encC e' n' l' ≠ bs)

theorem sres_num {bs : List Int} {u i g : Int} (h : SRes bs 1048576 u i g) :
    (g = 0 ∧ ∃ x s : Nat, x ≤ 1048576 ∧ Vm.enc x <+: bs ∧ Vm.sz x = s ∧ u = x ∧ i = s ∧ s ≤ bs.length ∧ s ≤ 10) ∨ (g = 5 ∧ u = 0 ∧ i = 0 ∧ Cm.NoNum bs) := by
  rcases h with ⟨hR, _, h2, rfl⟩ | ⟨rfl, rfl, rfl, x, n, e, hR, hx⟩
  · have hb := Vm.res_bounds hR
    rcases hR with ⟨x, h3, h4, rfl, rfl, _⟩ | ⟨_, _, _, h⟩
    · exact .inl ⟨rfl, x, _, by omega, h4, rfl, rfl, rfl, by omega, by omega⟩
    · simp at h
  · refine .inr ⟨rfl, rfl, rfl, fun y hy hp => ?_⟩
    obtain ⟨e1, e2, e3⟩ := Vm.res_good hR (by omega) hp
    omega

set_option maxHeartbeats 1000000 in
theorem cread_any (vb : Value) (bs : List Int) (w : World) (hb : Is .u8 w vb bs) (hl : bs.length ≤ 140737488355328) :
    Calls Try.prog 118 #[vb] w fun E w' => ∃ (e n k g : Int) (v : Value) (l : List Bm.Ov), E = .returned (.tuple #[cmv e n v, .int .i64 k, .int .i64 g]) ∧ OwnO 66 w.heap.size w' v l ∧ RRes bs e n l k g ∧ Below w.heap.size w w' := by
  unfold cmv
  obtain ⟨w1, hw1, sz1, bel1, hB⟩ := blk_step w #[.int .i64 0, .int .i64 0, .slice none 0 0] 32
  have hb1 := hb.below bel1
  obtain ⟨u, i, g, hS⟩ := sres_is bs 1048576
  obtain ⟨ao, cap, rfl, _, _⟩ := hb.shape
  obtain ⟨Z, hZ, bZ, gZ, ⟨a0, a1, a2⟩, ⟨f0, f1, f2⟩, ⟨z0, z1, z2⟩⟩ := res_step hB (.int .i64 0) (.int .i64 0) (.slice none 0 0)
  have belZ := below_put bel1 gZ (Nat.le_refl _) (by omega)
  have HB := hide hB
  have HS := hide hS
  clear hB bZ gZ
  go_enter Try.func118, Try.ntmps118
  go_wp2_with fail
  refine (small_any _ bs 1048576 u i g _ hb1 (by omega) (by omega) (by omega) HS.out).mono ?_
  rintro E w2 ⟨rfl, rfl⟩
  rcases sres_num HS.out with ⟨rfl, x, s, hx, px, hsx, rfl, rfl, hsl, hs10⟩ | ⟨rfl, rfl, rfl, hN⟩
  · obtain ⟨vs, hvs, isl⟩ := hb1.slice_l Try.elemP Try.sizeP s hsl
    obtain ⟨u, i, g, hS2⟩ := sres_is (bs.drop s) 1048576
    have HX : Hid (Vm.enc x <+: bs ∧ Vm.sz x = s) := ⟨px, hsx⟩
    have HS2 := hide hS2
    clear px hsx hS2 HS
    go_wp2_with fail
    refine (small_any _ _ 1048576 u i g _ isl (by rw [List.length_drop]; omega) (by omega) (by omega) HS2.out).mono ?_
    rintro E w2 ⟨rfl, rfl⟩
    rcases sres_num HS2.out with ⟨rfl, y, r, hy, py, hsy, rfl, rfl, hrl, hr10⟩ | ⟨rfl, rfl, rfl, hN⟩
    · rw [List.length_drop] at hrl
      obtain ⟨vr, hvr, isr⟩ := hb1.slice_l Try.elemP Try.sizeP (s + r) (by omega)
      have HY : Hid (Vm.enc y <+: bs.drop s ∧ Vm.sz y = r) := ⟨py, hsy⟩
      push_cast at hvr
      clear py hsy HS2
      go_wp2_with fail
      refine (bread_any vr _ _ isr (by rw [List.length_drop]; omega)).mono ?_
      rintro E w3 ⟨vl, l, k, e, rfl, ownl, hR, bel3⟩
      have sz3 := bel3.size
      have hB3 := (bel3.block w.heap.size (by omega)).trans HB.out
      have bel03 := bel1.trans (bel3.mono (by omega))
      obtain ⟨px, hsx⟩ := HX.out
      obtain ⟨py, hsy⟩ := HY.out
      clear HX HY hZ a0 a1 a2 f0 f1 f2 z0 z1 z2 belZ bel1 bel3 hb1 isl isr hvs hvr hb
      rcases hR with ⟨rfl, hc, hp, rfl⟩ | ⟨rfl, rfl, rfl, hno⟩
      · obtain ⟨ah, ch, hvl, _, _⟩ := ownl.is.shape
        subst hvl
        have hpl := hp.length_le
        rw [List.length_drop] at hpl
        obtain ⟨V, hV, bV, gV, ⟨a0, a1, a2⟩, ⟨f0, f1, f2⟩, ⟨z0, z1, z2⟩⟩ := res_step hB3 (.int .i64 x) (.int .i64 y) (.slice ah l.length ch)
        have belV := below_put bel03 gV (Nat.le_refl _) (by omega)
        have ownV := (ownl.keptg gV (by omega)).rebase (base' := w.heap.size) (by omega)
        have HR : Hid (RRes bs x y l ((s + r + (Bm.encB l).length : Nat) : Int) 0) := hide (.inl ⟨rfl, x, y, hx, hy, px, by rw [hsx]; exact py, hc, by rw [hsx, hsy]; exact hp, rfl, rfl, by rw [hsx, hsy]⟩)
        clear px py hsx hsy hc hp bV gV hB3 ownl bel03
        go_wp2
        refine bodyPost_ret (v := .tuple #[.agg #[.int .i64 x, .int .i64 y, .slice ah l.length ch], .int .i64 ((s + r + (Bm.encB l).length : Nat) : Int), .int .i64 0]) (by simp [results, Try.results118, go_sem, z0, z1, z2]) rfl ?_
        exact ⟨_, _, _, _, _, _, rfl, ownV, HR.out, belV⟩
      · obtain ⟨V, hV, bV, gV, ⟨a0, a1, a2⟩, ⟨f0, f1, f2⟩, ⟨z0, z1, z2⟩⟩ := res_step hB3 (.int .i64 0) (.int .i64 0) (.slice none 0 0)
        have belV := below_put bel03 gV (Nat.le_refl _) (by omega)
        have HR : Hid (RRes bs 0 0 [] 0 5) := hide (.inr ⟨rfl, rfl, rfl, rfl, rfl, Cm.no_batch px (by rw [hsx]; exact py) (by rw [hsx, hsy]; exact hno)⟩)
        clear px py hsx hsy hno bV gV hB3 ownl bel03
        go_wp2
        refine bodyPost_ret (v := .tuple #[.agg #[.int .i64 0, .int .i64 0, .slice none 0 0], .int .i64 0, .int .i64 5]) (by simp [results, Try.results118, go_sem, z0, z1, z2]) rfl ?_
        exact ⟨_, _, _, _, _, _, rfl, OwnO.nil _ _ _, HR.out, belV⟩
    · have HR : Hid (RRes bs 0 0 [] 0 5) := hide (.inr ⟨rfl, rfl, rfl, rfl, rfl, Cm.no_number HX.out.1 (by rw [HX.out.2]; exact hN)⟩)
      clear hN HS2 HX
      go_wp2
      refine bodyPost_ret (v := .tuple #[.agg #[.int .i64 0, .int .i64 0, .slice none 0 0], .int .i64 0, .int .i64 5]) (by simp [results, Try.results118, go_sem, z0, z1, z2]) rfl ?_
      exact ⟨_, _, _, _, _, _, rfl, OwnO.nil _ _ _, HR.out, belZ⟩
  · have HR : Hid (RRes bs 0 0 [] 0 5) := hide (.inr ⟨rfl, rfl, rfl, rfl, rfl, Cm.no_epoch hN⟩)
    clear hN HS
    go_wp2
    refine bodyPost_ret (v := .tuple #[.agg #[.int .i64 0, .int .i64 0, .slice none 0 0], .int .i64 0, .int .i64 5]) (by simp [results, Try.results118, go_sem, z0, z1, z2]) rfl ?_
    exact ⟨_, _, _, _, _, _, rfl, OwnO.nil _ _ _, HR.out, belZ⟩

end Go.Proofs.Ytkpnkknolobioaa

/- Rows of anything in memory, k cells each: what a slice of them reads as ('RowG'), one of the call's own ('OwnG'), an append between the two. No program. -/
namespace Go.Proofs.Ytkpnkknolobioaa
open Go.RowKit
set_option linter.unusedVariables false

section
variable {α : Type}

def gcells (f : α → List Value) : List α → List Value
  | [] => []
  | a :: r => f a ++ gcells f r

theorem gcells_len {f : α → List Value} {k : Nat} (hk : ∀ a, (f a).length = k) : ∀ (l : List α), (gcells f l).length = l.length * k
  | [] => by simp [gcells]
  | a :: r => by rw [gcells, List.length_append, hk, gcells_len hk r, List.length_cons, Nat.add_mul]; omega

theorem gcells_app (f : α → List Value) : ∀ (l m : List α), gcells f (l ++ m) = gcells f l ++ gcells f m
  | [], _ => rfl
  | a :: l, m => by simp only [List.cons_append, gcells, gcells_app f l m, List.append_assoc]

theorem gcells_at {f : α → List Value} {k : Nat} (hk : ∀ a, (f a).length = k) : ∀ (l : List α) (i : Nat) (a : α), l[i]? = some a → ∀ j u, (f a)[j]? = some u → (gcells f l)[i * k + j]? = some u
  | [], _, _, h, _, _, _ => by simp at h
  | b :: r, 0, a, h, j, u, hj => by
    simp at h
    subst h
    have := (List.getElem?_eq_some_iff.1 hj).1
    rw [gcells, Nat.zero_mul, Nat.zero_add, List.getElem?_append_left this]
    exact hj
  | b :: r, i + 1, a, h, j, u, hj => by
    have := gcells_at hk r i a (by simpa using h) j u hj
    rw [gcells, List.getElem?_append_right (by rw [hk, Nat.add_mul]; omega), hk, show (i + 1) * k + j - k = i * k + j by rw [Nat.add_mul]; omega]
    exact this

theorem gcells_take {f : α → List Value} {k : Nat} (hk : ∀ a, (f a).length = k) : ∀ (l : List α) (p : Nat), gcells f (l.take p) = (gcells f l).take (p * k)
  | [], p => by simp [gcells]
  | a :: l, 0 => by simp [gcells]
  | a :: l, p + 1 => by
    have h1 : (f a).take ((p + 1) * k) = f a := List.take_of_length_le (by rw [hk, Nat.add_mul]; omega)
    have h2 : (p + 1) * k - k = p * k := by rw [Nat.add_mul]; omega
    rw [List.take_succ_cons, gcells, gcells, gcells_take hk l p, List.take_append, hk, h1, h2]

theorem gcells_drop {f : α → List Value} {k : Nat} (hk : ∀ a, (f a).length = k) : ∀ (l : List α) (p : Nat), gcells f (l.drop p) = (gcells f l).drop (p * k)
  | [], p => by simp [gcells]
  | a :: l, 0 => by simp [gcells]
  | a :: l, p + 1 => by
    have h1 : (f a).drop ((p + 1) * k) = [] := List.drop_eq_nil_of_le (by rw [hk, Nat.add_mul]; omega)
    have h2 : (p + 1) * k - k = p * k := by rw [Nat.add_mul]; omega
    rw [List.drop_succ_cons, gcells_drop hk l p, gcells, List.drop_append, hk, h1, h2, List.nil_append]

theorem gcells_set {f : α → List Value} {k : Nat} (hk : ∀ a, (f a).length = k) : ∀ (l : List α) (i : Nat) (a b : α), l[i]? = some a → ∀ j u, j < k → (f a).set j u = f b → (gcells f l).set (i * k + j) u = gcells f (l.set i b)
  | [], _, _, _, h, _, _, _, _ => by simp at h
  | c :: r, 0, a, b, h, j, u, hj, hb => by
    simp at h
    subst h
    rw [gcells, Nat.zero_mul, Nat.zero_add, List.set_append_left _ _ (by rw [hk]; exact hj), hb]
    rfl
  | c :: r, i + 1, a, b, h, j, u, hj, hb => by
    rw [gcells, List.set_append_right _ _ (by rw [hk, Nat.add_mul]; omega), hk, show (i + 1) * k + j - k = i * k + j by rw [Nat.add_mul]; omega, gcells_set hk r i a b (by simpa using h) j u hj hb]
    rfl

/-- A slice value whose cells are those of l. -/
def RowG (f : α → List Value) (w : World) (v : Value) (l : List α) : Prop :=
  (v = .slice none 0 0 ∧ l = []) ∨ ∃ ad cap, v = .slice (some ad) l.length cap ∧ l.length ≤ cap ∧ cap ≤ maxLen ∧ ∀ j u, (gcells f l)[j]? = some u → w.cell? (ad.add j) = some u

/-- A row of the call's (the object's) own. -/
def OwnG (f : α → List Value) (k : Nat) (e : TypeId) (base : Nat) (w : World) (v : Value) (l : List α) : Prop := w.ownsRow base e k v l.length (gcells f l)

theorem RowG.nil (f : α → List Value) (w : World) : RowG f w (.slice none 0 0) [] := .inl ⟨rfl, rfl⟩
theorem OwnG.nil (f : α → List Value) (k : Nat) (e : TypeId) (base : Nat) (w : World) : OwnG f k e base w (.slice none 0 0) [] := World.ownsRow_nil _ _ _ _

theorem RowG.agree {f : α → List Value} {w w' : World} {v : Value} {l : List α} (h : RowG f w v l) (hb : ∀ b, v.ownBlock = some b → w'.heap[b]? = w.heap[b]?) : RowG f w' v l := by
  rcases h with h | ⟨ad, cap, hv, h1, h2, hc⟩
  · exact .inl h
  · refine .inr ⟨ad, cap, hv, h1, h2, fun j u hj => ?_⟩
    rw [World.cell?_of_block (show w'.heap[(ad.add j).block]? = w.heap[(ad.add j).block]? from ?_)]
    · exact hc j u hj
    · have e : (ad.add j).block = ad.block := by unfold Addr.add; split <;> rfl
      rw [e]
      exact hb ad.block (by rw [hv]; rfl)

theorem RowG.below {f : α → List Value} {w w' : World} {v : Value} {l : List α} (h : RowG f w v l) (hb : Below w.heap.size w w') : RowG f w' v l := by
  rcases h with h | ⟨ad, cap, hv, h1, h2, hc⟩
  · exact .inl h
  · refine .inr ⟨ad, cap, hv, h1, h2, fun j u hj => ?_⟩
    have := hc j u hj
    rw [hb.cell (World.block_lt_of_cell? _ _ this)]
    exact this

theorem RowG.shape {f : α → List Value} {w : World} {v : Value} {l : List α} (h : RowG f w v l) : ∃ ao cap, v = .slice ao l.length cap ∧ l.length ≤ cap ∧ cap ≤ maxLen := by
  rcases h with ⟨hv, e⟩ | ⟨ad, cap, hv, h1, h2, _⟩
  · subst e; exact ⟨none, 0, hv, by simp, by simp⟩
  · exact ⟨some ad, cap, hv, h1, h2⟩

theorem RowG.full {f : α → List Value} {k : Nat} (hk : ∀ a, (f a).length = k) (h0 : 0 < k) {w : World} {v : Value} {l : List α} (h : RowG f w v l) (hne : 0 < l.length) :
    ∃ b off cap, v = .slice (some ⟨b, off, none⟩) l.length cap ∧ l.length ≤ cap ∧ cap ≤ maxLen ∧ b < w.heap.size ∧ ∀ i a, l[i]? = some a → ∀ j u, (f a)[j]? = some u → w.cell? ⟨b, off + i * k + j, none⟩ = some u := by
  rcases h with ⟨_, h⟩ | ⟨⟨b, off, spot⟩, cap, hv, h1, h2, hc⟩
  · subst h; simp at hne
  · obtain ⟨a0, ha0⟩ : ∃ a, l[0]? = some a := ⟨l[0], by rw [List.getElem?_eq_getElem]⟩
    have hf0 : (f a0)[0]? = some ((f a0)[0]'(by rw [hk]; exact h0)) := List.getElem?_eq_getElem (by rw [hk]; exact h0)
    have g0 := hc _ _ (gcells_at hk l 0 a0 ha0 0 _ hf0)
    have hspot : spot = none := by simpa [Addr.add] using World.cell?_spot g0
    subst hspot
    rw [add_at] at g0
    refine ⟨b, off, cap, hv, h1, h2, World.block_lt_of_cell? _ _ g0, fun i a hia j u hj => ?_⟩
    have := hc _ _ (gcells_at hk l i a hia j u hj)
    rw [add_at] at this
    rw [Nat.add_assoc]
    exact this

theorem OwnG.row {f : α → List Value} {k e base : Nat} {w : World} {v : Value} {l : List α} (h : OwnG f k e base w v l) : RowG f w v l := by
  rcases h.2 with ⟨hv, hn⟩ | ⟨g, cap, cur, hv, h1, hh, hc, hm, hs, ht⟩
  · exact .inl ⟨hv, List.eq_nil_of_length_eq_zero hn⟩
  · refine .inr ⟨⟨g, 0, none⟩, cap, hv, hc, hm, fun j u hj => ?_⟩
    exact h.cells (by rw [hv]; rfl) j u hj

theorem OwnG.agree {f : α → List Value} {k e base : Nat} {w w' : World} {v : Value} {l : List α} (h : OwnG f k e base w v l) (hb : ∀ b, v.ownBlock = some b → w'.heap[b]? = w.heap[b]?) : OwnG f k e base w' v l := row_agree h hb

theorem OwnG.lt {f : α → List Value} {k e base : Nat} {w : World} {v : Value} {l : List α} (h : OwnG f k e base w v l) : ∀ b, v.ownBlock = some b → base ≤ b ∧ b < w.heap.size := World.ownsRow.lt h

theorem OwnG.type {f : α → List Value} {k e base : Nat} {w : World} {v : Value} {l : List α} (h : OwnG f k e base w v l) {g : Nat} (hg : v.ownBlock = some g) : ∃ cs, w.heap[g]? = some (.cells cs e (0, 0)) := by
  rcases h.2 with ⟨rfl, _⟩ | ⟨g', cap, cur, rfl, _, hh, _⟩
  · simp [Value.ownBlock] at hg
  · simp [Value.ownBlock] at hg
    subst hg
    exact ⟨_, hh⟩

/-- Laid in a new block. -/
theorem rows_step (f : α → List Value) (k : Nat) (hk : ∀ a, (f a).length = k) (e : TypeId) (w : World) (cs : Array Value) (n : Nat) (l : List α) (hn : l.length = n) (h : cs.toList = gcells f l) (hm : n ≤ maxLen) :
    ∃ W, w.alloc (.cells cs e) = W ∧ W.heap.size = w.heap.size + 1 ∧ Below w.heap.size w W ∧ OwnG f k e w.heap.size W (.slice (some ⟨w.heap.size, 0, none⟩) n n) l := by
  subst hn
  refine ⟨_, rfl, by simp, (Below.refl _ _).alloc (Nat.le_refl _) _, ?_⟩
  have ho := World.ownsRow_lit (base := w.heap.size) (e := e) (size := k) w cs l.length (Nat.le_refl _) hm (by have := congrArg List.length h; rw [gcells_len hk] at this; simpa using this)
  rw [h] at ho
  exact ho

variable {P : Program} {w : World} {ops : Array Oper} {rest : List Oper} {o : Oper} {a : Act} {Q : Exit → Act → World → Prop}

/-- 'out = append(out, xs...)': out nil or an own row. -/
theorem wpList_append_rows (f : α → List Value) (k bytes : Nat) (hk : ∀ a, (f a).length = k) (h0 : 0 < k) (hb0 : 0 < bytes) (z : Value) (hzk : z.cells.size = k) (hgd : o.guard = none) (s x : Operand) (t : TypeId)
    (ho : o.op = .call { callee := .builtin .append, args := #[s, x], argTypes := #[t, t] })
    (e : TypeId) (base : Nat) (ht : P.underlying t = some (.slice e)) (hinfo : (P.info? e).map (fun i => (i.zero, i.size, i.bytes)) = some (some z, k, bytes))
    (v : Value) (l : List α) (hs : a.eval s = v) (hown : OwnG f k e base w v l) (vx : Value) (m : List α) (hx : a.eval x = vx) (his : RowG f w vx m) (hone : ∀ u ∈ gcells f m, u.oneCell' = true)
    (hlen : (l.length + m.length) * bytes ≤ 140737488355328) (hbase : base ≤ w.heap.size)
    (h : ∀ v' w', OwnG f k e base w' v' (l ++ m) → w.grownBy w' v.ownBlock → wpList P ops Q rest (a.put o.dst v') w') : wpList P ops Q (o :: rest) a w := by
  obtain ⟨i, hi, hz, hsize, hb⟩ := info_parts hinfo
  have hn : l.length + m.length ≤ 140737488355328 := Nat.le_trans (Nat.le_mul_of_pos_right _ hb0) hlen
  rcases his with ⟨hv, hy⟩ | ⟨ad, cap, hv, h1, h2, hc⟩
  · subst hy
    refine wpList_append_own_none hgd s x t ho base e i k ht hi v l.length _ hs hown (hx.trans hv) (h v w (by simpa using hown) (World.grownBy.refl _ _))
  · refine wpList_append_own w hgd s x t ho base e i z k bytes ht hi hz hsize hb hzk h0 v l.length _ hs hown ad m.length cap (gcells f m) (hx.trans hv) (gcells_len hk m) hc hone (by unfold maxLen; omega) hlen hbase ?_
    intro v' w' ho' hg _
    exact h v' w' (by unfold OwnG; rw [gcells_app, List.length_append]; exact ho') hg

/-- The same inside a region that draws its order. -/
theorem step_append_rows {K : Act → World → Prop} {E : Prop} (f : α → List Value) (k bytes : Nat) (hk : ∀ a, (f a).length = k) (h0 : 0 < k) (hb0 : 0 < bytes) (z : Value) (hzk : z.cells.size = k) (hgd : o.guard = none) (s x : Operand) (t : TypeId)
    (ho : o.op = .call { callee := .builtin .append, args := #[s, x], argTypes := #[t, t] })
    (e : TypeId) (base : Nat) (ht : P.underlying t = some (.slice e)) (hinfo : (P.info? e).map (fun i => (i.zero, i.size, i.bytes)) = some (some z, k, bytes))
    (v : Value) (l : List α) (hs : a.eval s = v) (hown : OwnG f k e base w v l) (vx : Value) (m : List α) (hx : a.eval x = vx) (his : RowG f w vx m) (hone : ∀ u ∈ gcells f m, u.oneCell' = true)
    (hlen : (l.length + m.length) * bytes ≤ 140737488355328) (hbase : base ≤ w.heap.size)
    (h : ∀ v' w', OwnG f k e base w' v' (l ++ m) → w.grownBy w' v.ownBlock → K (a.put o.dst v') w') :
    if Region.wanted o (yielded ops a.tmps) = true then Oper.wp P o a w K Q else E := by
  have hw : Region.wanted o (yielded ops a.tmps) = true := by simp [Region.wanted, hgd]
  rw [if_pos hw]
  obtain ⟨i, hi, hz, hsize, hb⟩ := info_parts hinfo
  have hn : l.length + m.length ≤ 140737488355328 := Nat.le_trans (Nat.le_mul_of_pos_right _ hb0) hlen
  rcases his with ⟨hv, hy⟩ | ⟨ad, cap, hv, h1, h2, hc⟩
  · subst hy
    have hrun := run_append_owned_none (P := P) (w := w) base t o.type e i k ht hi v l.length _ hown
    have hk := h v w (by simpa using hown) (World.grownBy.refl _ _)
    unfold Oper.wp
    simp [execOp, ho, resolve, invoke, builtin, hs, hx.trans hv, hrun, Result.andThen]
    exact hk
  · refine wp_append_own w s x t ho base e i z k bytes ht hi hz hsize hb hzk h0 v l.length _ hs hown ad m.length cap (gcells f m) (hx.trans hv) (gcells_len hk m) hc hone (by unfold maxLen; omega) hlen hbase ?_
    intro v' w' ho' hg _
    exact h v' w' (by unfold OwnG; rw [gcells_app, List.length_append]; exact ho') hg

end

end Go.Proofs.Ytkpnkknolobioaa

/- Appends to a row of an object's own, told as one fact of the operation, with where the new row lies. No program. -/
namespace Go.Proofs.Ytkpnkknolobioaa
open Go.RowKit
set_option linter.unusedVariables false

section
variable {P : Program} {w : World}

/-- 'append(out, xs...)' of integers. -/
theorem run_append_is_at (t ty : TypeId) (k : IntKind) (e : TypeId) (base bytes : Nat) (ht : P.underlying t = some (.slice e)) (hinfo : (P.info? e).map (fun i => (i.zero, i.size, i.bytes)) = some (some (.int k 0), 1, bytes)) (hby : 0 < bytes)
    (v : Value) (zs : List Int) (hown : Own k e base w v zs) (vx : Value) (ys : List Int) (his : Is k w vx ys) (hlen : (zs.length + ys.length) * bytes ≤ 140737488355328) (hbase : base ≤ w.heap.size) :
    ∃ v' w', (Builtin.append_ #[t, t] ty #[v, vx]).run P w = .ok v' w' ∧ Own k e base w' v' (zs ++ ys) ∧ w.grownBy w' v.ownBlock ∧ (v'.ownBlock = v.ownBlock ∨ v'.ownBlock = some w.heap.size) := by
  obtain ⟨i, hi, hz, hsize, hb⟩ := info_parts hinfo
  have hn : zs.length + ys.length ≤ 140737488355328 := Nat.le_trans (Nat.le_mul_of_pos_right _ hby) hlen
  have hwf : ∀ z ∈ zs ++ ys, (Lit.int k z).wf = true := by
    intro z hz
    rcases List.mem_append.1 hz with hz | hz
    · exact hown.1 z hz
    · exact his.1 z hz
  rcases his.2 with ⟨hv, hy⟩ | ⟨ad, cap, hv, h1, h2, hc⟩
  · subst hy hv
    have hrun := run_append_owned_none (P := P) (w := w) base t ty e i 1 ht hi v zs.length _ hown.2
    exact ⟨v, w, hrun, ⟨hwf, by simpa using hown.2⟩, World.grownBy.refl _ _, .inl rfl⟩
  · subst hv
    obtain ⟨v', w', hr, h3, h4, _, h5⟩ := run_append_own_at (P := P) w base t ty e i (.int k 0) 1 bytes ht hi hz hsize hb rfl (by decide) v zs.length _ hown.2 ad ys.length cap (ys.map (Value.int k)) (by simp) (by
      intro j u hj
      rw [List.getElem?_map, Option.map_eq_some_iff] at hj
      obtain ⟨z, hz, rfl⟩ := hj
      obtain ⟨hj, hz⟩ := List.getElem?_eq_some_iff.1 hz
      rw [hc j hj, List.getD_eq_getElem?_getD, List.getElem?_eq_getElem hj, hz]
      rfl) (ints_oneCell k ys) (by unfold maxLen; omega) hlen hbase
    exact ⟨v', w', hr, ⟨hwf, by simpa [List.map_append] using h3⟩, h4, h5⟩

/-- 'append(out, xs...)' of anything. -/
theorem run_append_rows_at {α : Type} (t ty : TypeId) (f : α → List Value) (k bytes : Nat) (hk : ∀ a, (f a).length = k) (h0 : 0 < k) (hb0 : 0 < bytes) (z : Value) (hzk : z.cells.size = k)
    (e : TypeId) (base : Nat) (ht : P.underlying t = some (.slice e)) (hinfo : (P.info? e).map (fun i => (i.zero, i.size, i.bytes)) = some (some z, k, bytes))
    (v : Value) (l : List α) (hown : OwnG f k e base w v l) (vx : Value) (m : List α) (his : RowG f w vx m) (hone : ∀ u ∈ gcells f m, u.oneCell' = true)
    (hlen : (l.length + m.length) * bytes ≤ 140737488355328) (hbase : base ≤ w.heap.size) :
    ∃ v' w', (Builtin.append_ #[t, t] ty #[v, vx]).run P w = .ok v' w' ∧ OwnG f k e base w' v' (l ++ m) ∧ w.grownBy w' v.ownBlock ∧ (v'.ownBlock = v.ownBlock ∨ v'.ownBlock = some w.heap.size) := by
  obtain ⟨i, hi, hz, hsize, hb⟩ := info_parts hinfo
  have hn : l.length + m.length ≤ 140737488355328 := Nat.le_trans (Nat.le_mul_of_pos_right _ hb0) hlen
  rcases his with ⟨hv, hy⟩ | ⟨ad, cap, hv, h1, h2, hc⟩
  · subst hy hv
    have hrun := run_append_owned_none (P := P) (w := w) base t ty e i k ht hi v l.length _ hown
    exact ⟨v, w, hrun, by simpa using hown, World.grownBy.refl _ _, .inl rfl⟩
  · subst hv
    obtain ⟨v', w', hr, h3, h4, _, h5⟩ := run_append_own_at (P := P) w base t ty e i z k bytes ht hi hz hsize hb hzk h0 v l.length _ hown ad m.length cap (gcells f m) (gcells_len hk m) hc hone (by unfold maxLen; omega) hlen hbase
    exact ⟨v', w', hr, by unfold OwnG; rw [gcells_app, List.length_append]; exact h3, h4, h5⟩

end

/-- A row's front: 'v[:p]'. -/
theorem own_cut {w : World} {base e size g n cap : Nat} {xs : List Value} (h : w.ownsRow base e size (.slice (some ⟨g, 0, none⟩) n cap) n xs) (m : Nat) (hm : m ≤ n) : w.ownsRow base e size (.slice (some ⟨g, 0, none⟩) m cap) m (xs.take (m * size)) := by
  obtain ⟨h1, h2⟩ := h
  have hle : m * size ≤ n * size := Nat.mul_le_mul_right _ hm
  refine ⟨by rw [List.length_take]; omega, ?_⟩
  rcases h2 with ⟨h', _⟩ | ⟨g', cap', cur, h', hb, hg, hnc, hcm, hcs, htake⟩
  · simp at h'
  · simp only [Value.slice.injEq, Option.some.injEq, Addr.mk.injEq, and_true, true_and] at h'
    obtain ⟨rfl, rfl⟩ := h'
    refine .inr ⟨g, cap, cur, rfl, hb, hg, by omega, hcm, hcs, ?_⟩
    rw [← htake, List.take_take]
    congr 1
    omega

theorem Own.agree {k : IntKind} {e : TypeId} {base : Nat} {w w' : World} {v : Value} {zs : List Int} (h : Own k e base w v zs) (hb : ∀ b, v.ownBlock = some b → w'.heap[b]? = w.heap[b]?) : Own k e base w' v zs := ⟨h.1, row_agree h.2 hb⟩

theorem Own.type {k : IntKind} {e base : Nat} {w : World} {v : Value} {zs : List Int} (h : Own k e base w v zs) {g : Nat} (hg : v.ownBlock = some g) : ∃ cs, w.heap[g]? = some (.cells cs e (0, 0)) := by
  rcases h.2.2 with ⟨rfl, _⟩ | ⟨g', cap, cur, rfl, _, hh, _⟩
  · simp [Value.ownBlock] at hg
  · simp [Value.ownBlock] at hg
    subst hg
    exact ⟨_, hh⟩

/-- 'v[:p]' of an own row of integers: an own row. -/
theorem Own.slice_h {P : Program} {k : IntKind} {e base : Nat} {w : World} {v : Value} {zs : List Int} (h : Own k e base w v zs) {t : TypeId} (ht : P.underlying t = some (.slice (P.elem t))) (hs : ∀ wx, (sizeOf (P.elem t)).run P wx = .ok 1 wx) (p : Nat) (hp : p ≤ zs.length) :
    ∃ vs, (∀ wx, (Instr.slice t v none (some (.int .i64 p)) none).run P wx = .ok vs wx) ∧ Own k e base w vs (zs.take p) ∧ (∀ b, vs.ownBlock = some b → v.ownBlock = some b) := by
  have hwf : ∀ z ∈ zs.take p, (Lit.int k z).wf = true := fun z hz => h.1 z (List.mem_of_mem_take hz)
  have hl : (zs.take p).length = p := by rw [List.length_take]; omega
  rcases h.2.2 with ⟨rfl, hn⟩ | ⟨g, cap, cur, rfl, hb, hg, hnc, hcm, hcs, htake⟩
  · obtain rfl : p = 0 := by omega
    refine ⟨.slice none 0 0, fun wx => ?_, ⟨hwf, by rw [hl]; simpa using World.ownsRow_nil w base e 1⟩, fun b hb => hb⟩
    rw [run_slice_h wx t none 0 0 ht .i64 _ (by omega) (by omega)]
    simp [Result.andThen, sliced, hs]
  · refine ⟨.slice (some ⟨g, 0, none⟩) p cap, fun wx => ?_, ⟨hwf, ?_⟩, fun b hb => hb⟩
    · rw [run_slice_h wx t _ zs.length cap ht .i64 _ (by omega) (by omega)]
      simp [Result.andThen, sliced, hs, Addr.add]
    · have := own_cut h.2 p hp
      rw [hl, List.map_take]
      simpa using this

section
variable {P : Program} {w : World} {ops : Array Oper} {rest : List Oper} {o : Oper} {a : Act} {Q : Exit → Act → World → Prop}

/-- An append whose answer is known. -/
theorem wpList_append_at (hgd : o.guard = none) (s x : Operand) (t : TypeId) (ho : o.op = .call { callee := .builtin .append, args := #[s, x], argTypes := #[t, t] })
    (v vx : Value) (hs : a.eval s = v) (hx : a.eval x = vx) {R : Value → World → Prop} (hrun : ∀ ty, ∃ v' w', (Builtin.append_ #[t, t] ty #[v, vx]).run P w = .ok v' w' ∧ R v' w')
    (h : ∀ v' w', R v' w' → wpList P ops Q rest (a.put o.dst v') w') : wpList P ops Q (o :: rest) a w := by
  refine wpList_plain hgd fun K hK => ?_
  obtain ⟨v', w', hr, hR⟩ := hrun o.type
  unfold Oper.wp execOp
  simp only [ho, resolve, invoke, builtin, Sem.run_bind, Sem.run_pure, Result.andThen_ok, List.map_toArray, List.map_cons, List.map_nil, hs, hx, hr]
  exact hK _ _ (h v' w' hR)

theorem step_append_at {K : Act → World → Prop} {E : Prop} (hgd : o.guard = none) (s x : Operand) (t : TypeId) (ho : o.op = .call { callee := .builtin .append, args := #[s, x], argTypes := #[t, t] })
    (v vx : Value) (hs : a.eval s = v) (hx : a.eval x = vx) {R : Value → World → Prop} (hrun : ∀ ty, ∃ v' w', (Builtin.append_ #[t, t] ty #[v, vx]).run P w = .ok v' w' ∧ R v' w')
    (h : ∀ v' w', R v' w' → K (a.put o.dst v') w') : if Region.wanted o (yielded ops a.tmps) = true then Oper.wp P o a w K Q else E := by
  have hw : Region.wanted o (yielded ops a.tmps) = true := by simp [Region.wanted, hgd]
  rw [if_pos hw]
  obtain ⟨v', w', hr, hR⟩ := hrun o.type
  unfold Oper.wp execOp
  simp only [ho, resolve, invoke, builtin, Sem.run_bind, Sem.run_pure, Result.andThen_ok, List.map_toArray, List.map_cons, List.map_nil, hs, hx, hr]
  exact h v' w' hR

/-- A call inside a region that draws its order. -/
theorem call_at {K : Act → World → Prop} {E : Prop} (hgd : o.guard = none) (f : FuncId) (args : Array Operand) (ts : Array TypeId)
    (ho : o.op = .call { callee := .value (.func f), args := args, argTypes := ts }) (hent : ∀ args w, (callFunc f args).run P w = .ok (.enter f args) w) (vs : Array Value) (hvs : args.map a.eval = vs)
    {R : Value → World → Prop} (hc : Calls P f vs w fun e w' => ∃ v, e = .returned v ∧ R v w') (h : ∀ v w', R v w' → K (a.put o.dst v) w') :
    if Region.wanted o (yielded ops a.tmps) = true then Oper.wp P o a w K Q else E := by
  have hw : Region.wanted o (yielded ops a.tmps) = true := by simp [Region.wanted, hgd]
  rw [if_pos hw]
  unfold Oper.wp
  simp only [execOp, ho, resolve, invoke, Sem.run_bind, hvs]
  simp only [Act.eval, Deferred.ofValue, Sem.run_pure, Result.andThen_ok, Array.empty_append, hent]
  rw [Oper.upon_enter]
  refine hc.mono ?_
  rintro e w' ⟨v, rfl, hr⟩
  exact h v w' hr

end

/-- A struct of four cells, made and stored. -/
theorem new_four (w : World) (t : TypeId) (x y z u a b c d : Value) : ∃ V, (((((w.alloc (.cells #[x, y, z, u] t)).setCell ⟨w.heap.size, 0, none⟩ a).setCell ⟨w.heap.size, 1, none⟩ b).setCell ⟨w.heap.size, 2, none⟩ c).setCell ⟨w.heap.size, 3, none⟩ d = V) ∧ w.alloc (.cells #[a, b, c, d] t) = V ∧ V.heap.size = w.heap.size + 1 ∧ Below w.heap.size w V ∧ V.heap[w.heap.size]? = some (.cells #[a, b, c, d] t (0, 0)) ∧
    V.cell? ⟨w.heap.size, 0, none⟩ = some a ∧ V.cell? ⟨w.heap.size, 1, none⟩ = some b ∧ V.cell? ⟨w.heap.size, 2, none⟩ = some c ∧ V.cell? ⟨w.heap.size, 3, none⟩ = some d := by
  obtain ⟨V, h1, h2, h3, h4⟩ := blk_step w #[a, b, c, d] t
  refine ⟨V, ?_, h1, h2, h3, h4, blk_cell h4 0 rfl, blk_cell h4 1 rfl, blk_cell h4 2 rfl, blk_cell h4 3 rfl⟩
  rw [← h1]
  simp [go_sem]

theorem wrap64s (z : Int) (h0 : -9223372036854775808 ≤ z) (h1 : z < 9223372036854775808) : IntKind.i64.wrap z = z := by
  unfold IntKind.wrap
  simp [IntKind.bits, IntKind.signed]
  omega

end Go.Proofs.Ytkpnkknolobioaa

/- 'append' of ops and of rows of runs or commits, as one step. No program. -/
namespace Go.Proofs.Ytkpnkknolobioaa
open Go.RowKit
set_option linter.unusedVariables false

section
variable {P : Program} {w : World}

theorem run_append_ops_at (t ty e : TypeId) (base : Nat) (ht : P.underlying t = some (.slice e)) (hinfo : (P.info? e).map (fun i => (i.zero, i.size, i.bytes)) = some (some (.agg #[.bool false, .string ⟨#[]⟩, .string ⟨#[]⟩]), 3, 40))
    (v : Value) (l : List Bm.Ov) (hown : OwnO e base w v l) (vx : Value) (m : List Bm.Ov) (his : IsO w vx m) (hlen : (l.length + m.length) * 40 ≤ 140737488355328) (hbase : base ≤ w.heap.size) :
    ∃ v' w', (Builtin.append_ #[t, t] ty #[v, vx]).run P w = .ok v' w' ∧ OwnO e base w' v' (l ++ m) ∧ w.grownBy w' v.ownBlock ∧ (v'.ownBlock = v.ownBlock ∨ v'.ownBlock = some w.heap.size) := by
  obtain ⟨i, hi, hz, hsize, hb⟩ := info_parts hinfo
  rcases his with ⟨hv, hy⟩ | ⟨ad, cap, hv, h1, h2, hc⟩
  · subst hy hv
    have hrun := run_append_owned_none (P := P) (w := w) base t ty e i 3 ht hi v l.length _ hown
    exact ⟨v, w, hrun, by simpa using hown, World.grownBy.refl _ _, .inl rfl⟩
  · subst hv
    obtain ⟨v', w', hr, h3, h4, _, h5⟩ := run_append_own_at (P := P) w base t ty e i _ 3 40 ht hi hz hsize hb rfl (by decide) v l.length _ hown ad m.length cap (ocells m) (ocells_len m) hc (ocells_cell m) (by unfold maxLen; omega) hlen hbase
    exact ⟨v', w', hr, by unfold OwnO; rw [ocells_app, List.length_append]; exact h3, h4, h5⟩

theorem run_append_coms_at (t ty e : TypeId) (base : Nat) (ht : P.underlying t = some (.slice e)) (hinfo : (P.info? e).map (fun i => (i.zero, i.size, i.bytes)) = some (some (.agg #[.int .i64 0, .int .i64 0, .slice none 0 0]), 3, 40))
    (v : Value) (l : List Cw) (hown : OwnR e base w v l) (vx : Value) (m : List Cw) (his : RowC w vx m) (hone : ∀ c ∈ m, c.v.oneCell' = true) (hlen : (l.length + m.length) * 40 ≤ 140737488355328) (hbase : base ≤ w.heap.size) :
    ∃ v' w', (Builtin.append_ #[t, t] ty #[v, vx]).run P w = .ok v' w' ∧ OwnR e base w' v' (l ++ m) ∧ w.grownBy w' v.ownBlock ∧ (v'.ownBlock = v.ownBlock ∨ v'.ownBlock = some w.heap.size) := by
  obtain ⟨i, hi, hz, hsize, hb⟩ := info_parts hinfo
  rcases his with ⟨hv, hy⟩ | ⟨ad, cap, hv, h1, h2, hc⟩
  · subst hy hv
    have hrun := run_append_owned_none (P := P) (w := w) base t ty e i 3 ht hi v l.length _ hown
    exact ⟨v, w, hrun, by simpa using hown, World.grownBy.refl _ _, .inl rfl⟩
  · subst hv
    obtain ⟨v', w', hr, h3, h4, _, h5⟩ := run_append_own_at (P := P) w base t ty e i _ 3 40 ht hi hz hsize hb rfl (by decide) v l.length _ hown ad m.length cap (ccells m) (ccells_len m) hc (ccells_cell m hone) (by unfold maxLen; omega) hlen hbase
    exact ⟨v', w', hr, by unfold OwnR; rw [ccells_app, List.length_append]; exact h3, h4, h5⟩

end

end Go.Proofs.Ytkpnkknolobioaa

/- Commits in memory of their own, put together one by one. -/
namespace Go.Proofs.Ytkpnkknolobioaa
open Go.RowKit
set_option linter.unusedVariables false

/-- What a commit that was read is. -/
def CFit (e n : Int) (l : List Bm.Ov) : Prop := In64 e ∧ In64 n ∧ FitO l ∧ l.length ≤ 8

theorem cfit_no : CFit 0 0 [] := ⟨by simp [In64], by simp [In64], fun o ho => by simp at ho, by simp⟩
theorem cfit_ok {e n : Int} {l : List Bm.Ov} (h : Cm.chk e n l = 0) : CFit e n l := by
  obtain ⟨h1, h2, h3, h4, h5⟩ := Cm.chk_zero h
  exact ⟨⟨by omega, by omega⟩, ⟨by omega, by omega⟩, (small_of h5).fit, (Bm.chkL_zero h5).2.1⟩

/-- Commits so far. -/
structure ShS (b : Nat) (w : World) (vc : Value) (cs : List Cw) : Prop where
  c : OwnR 32 b w vc cs
  o : CopyR b w cs
  i : ∀ c ∈ cs, In64 c.e ∧ In64 c.n
  ap : ApC cs
  f : FitC cs

theorem ShS.nil (b : Nat) (w : World) : ShS b w (.slice none 0 0) [] := ⟨OwnR.nil _ _ _, fun c hc => by simp at hc, fun c hc => by simp at hc, fun i j c d _ hc => by simp at hc, fun c hc => by simp at hc⟩

theorem ShS.below {b : Nat} {w w' : World} {vc : Value} {cs : List Cw} (h : ShS b w vc cs) (hb : Below w.heap.size w w') : ShS b w' vc cs := ⟨h.c.below hb, h.o.below hb, h.i, h.ap, h.f⟩

theorem ShS.out {b : Nat} {w w' : World} {vc : Value} {cs : List Cw} {F : Nat → Prop} (h : ShS b w vc cs) (ho : Out F w w') (hF : ∀ i, F i → i < b) : ShS b w' vc cs := by
  have k : ∀ (v : Value), (∀ g, v.ownBlock = some g → b ≤ g ∧ g < w.heap.size) → ∀ g, v.ownBlock = some g → w'.heap[g]? = w.heap[g]? := fun v hv g hg => ho.block g (hv g hg).2 fun hf => by have := hF g hf; have := (hv g hg).1; omega
  exact ⟨row_agree h.c (k _ (World.ownsRow.lt h.c)), fun c hc => row_agree (h.o c hc) (k _ (World.ownsRow.lt (h.o c hc))), h.i, h.ap, h.f⟩

theorem ShS.rebase {b b' : Nat} {w : World} {vc : Value} {cs : List Cw} (h : ShS b w vc cs) (hb : b' ≤ b) : ShS b' w vc cs := ⟨row_rebase h.c hb, fun c hc => row_rebase (h.o c hc) hb, h.i, h.ap, h.f⟩

/-- One more. -/
theorem ShS.snoc {b : Nat} {w z4 : World} {vc v4 : Value} {cs : List Cw} {e n : Int} {vl : Value} {l : List Bm.Ov} {N : Nat} (h : ShS b w vc cs) (kp : KeepT 32 w z4) (hc : OwnR 32 b z4 v4 (cs ++ [⟨e, n, vl, l⟩])) (ho : OwnO 66 N w vl l) (hN : b ≤ N) (hlt : ∀ d ∈ cs, ∀ g, d.v.ownBlock = some g → g < N) (hf : CFit e n l) : ShS b z4 v4 (cs ++ [⟨e, n, vl, l⟩]) := by
  refine ⟨hc, (h.o.keepT kp).snoc ((ho.rebase hN).keepT kp (by decide)), fun c hcc => ?_, apc_snoc h.ap hlt (fun g hg => (World.ownsRow.lt ho g hg).1), fun c hcc => ?_⟩
  · rcases List.mem_append.1 hcc with hcc | hcc
    · exact h.i c hcc
    · rw [List.mem_singleton.1 hcc]; exact ⟨hf.1, hf.2.1⟩
  · rcases List.mem_append.1 hcc with hcc | hcc
    · exact h.f c hcc
    · rw [List.mem_singleton.1 hcc]; exact ⟨hf.2.2.1, by have := hf.2.2.2; show l.length * 40 ≤ _; omega⟩

/-- A commit is appended to a row of copies. -/
theorem ShS.push {b : Nat} {w w6 : World} {v : Value} {cs : List Cw} (h : ShS b w v cs) (hbw : b ≤ w.heap.size) (hb : Below w.heap.size w w6) (c : Cw) (hc : OwnO 66 w.heap.size w6 c.v c.l) (hf : CFit c.e c.n c.l) (hl : cs.length ≤ 2000000) :
    ∃ V, w6.alloc (.cells #[.int .i64 c.e, .int .i64 c.n, c.v] 32) = V ∧ Below w6.heap.size w6 V ∧ V.heap.size = w6.heap.size + 1 ∧ ∀ ty, ∃ v2 w2, (Builtin.append_ #[22, 22] ty #[v, .slice (some ⟨w6.heap.size, 0, none⟩) 1 1]).run Try.prog V = .ok v2 w2 ∧ ShS b w2 v2 (cs ++ [c]) ∧ V.grownBy w2 v.ownBlock ∧ ∃ a n k, v2 = .slice a n k := by
  obtain ⟨V, hV, szV, belV, ownV⟩ := coms_step 32 w6 #[.int .i64 c.e, .int .i64 c.n, c.v] 1 [c] rfl rfl (by simp [maxLen])
  have sz6 := hb.size
  have bwV : Below w.heap.size w V := hb.trans (belV.mono sz6)
  refine ⟨V, hV, belV, szV, fun ty => ?_⟩
  have hV' := h.below bwV
  obtain ⟨v2, w2, hr, own2, gr2, at2⟩ := run_append_coms_at (P := Try.prog) (w := V) 22 ty 32 b Try.underlying22 Try.info32 v cs hV'.c _ [c] ownV.row (fun d hd => by rw [List.mem_singleton.1 hd]; exact hc.is.one) (by simp; omega) (by omega)
  refine ⟨v2, w2, hr, ?_, gr2, ?_⟩
  · exact hV'.snoc (N := w.heap.size) (KeepT.of_row hV'.c gr2) own2 (hc.below belV) hbw (fun d hd g hg => (OwnO.block (h.o d hd) g hg).2) hf
  · obtain ⟨a1, k1, h1, _⟩ := own2.row.shape
    exact ⟨a1, _, k1, h1⟩

end Go.Proofs.Ytkpnkknolobioaa
