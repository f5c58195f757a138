/- The contracts of OpsOf and overCommits. -/
import Derived.Test.YtimmohpnlieefaaA3
import Derived.Test.YtimmohpnlieefaaBap
namespace Go.Proofs.Ytimmohpnlieefaa
open Go.RowKit
set_option linter.unusedVariables false

/-- A value alone. -/
def one (v : Value) : List Value := [v]
theorem one_len (v : Value) : (one v).length = 1 := rfl

theorem gcells_one : ∀ (m : List Value), gcells one m = m
  | [] => rfl
  | v :: m => by
    have := gcells_one m
    simp only [gcells, one] at this ⊢
    rw [this]
    rfl

theorem row_keepT {e e' base size n : Nat} {w w' : World} {v : Value} {xs : List Value} (h : w.ownsRow base e size v n xs) (k : KeepT e' w w') (hne : e ≠ e') : w'.ownsRow base e size v n xs := by
  refine ⟨h.1, ?_⟩
  rcases h.2 with h | ⟨g, cap, cur, hv, h1, hh, r⟩
  · exact .inl h
  · exact .inr ⟨g, cap, cur, hv, h1, k _ _ _ _ hh hne, r⟩

/-- 'append(out, xs...)' of lists of ops. -/
theorem wpList_append_lls {w : World} {ops : Array Oper} {rest : List Oper} {o : Oper} {a : Act} {Q : Exit → Act → World → Prop} (hgd : o.guard = none) (s x : Operand)
    (ho : o.op = .call { callee := .builtin .append, args := #[s, x], argTypes := #[96, 96] })
    (base : Nat) (v : Value) (l : List Value) (hs : a.eval s = v) (hown : OwnG one 1 30 base w v l) (vx : Value) (m : List Value) (hx : a.eval x = vx) (his : RowG one w vx m) (hone : ∀ u ∈ m, u.oneCell' = true)
    (hlen : (l.length + m.length) * 24 ≤ 140737488355328) (hbase : base ≤ w.heap.size)
    (h : ∀ v' w', OwnG one 1 30 base w' v' (l ++ m) → Below base w w' → w.grownBy w' v.ownBlock → wpList Try.prog ops Q rest (a.put o.dst v') w') : wpList Try.prog ops Q (o :: rest) a w :=
  wpList_append_rows one 1 24 one_len (by decide) (by decide) (.slice none 0 0) rfl hgd s x 96 ho 30 base Try.underlying96 Try.info30 v l hs hown vx m hx his (fun u hu => hone u (by rw [gcells_one] at hu; exact hu)) hlen hbase
    fun v' w' h1 h2 => h v' w' h1 ((Below.refl _ _).grown h2 hbase fun k hk => (OwnG.lt hown k hk).1) h2

theorem lls_step (w : World) (v : Value) : ∃ W, w.alloc (.cells #[v] 30) = W ∧ W.heap.size = w.heap.size + 1 ∧ Below w.heap.size w W ∧ OwnG one 1 30 w.heap.size W (.slice (some ⟨w.heap.size, 0, none⟩) 1 1) [v] :=
  rows_step one 1 one_len 30 w #[v] 1 [v] rfl rfl (by simp [maxLen])

set_option maxHeartbeats 1000000 in
theorem opsOf_any (vl : Value) (r : List Cw) (w : World) (h : IsC w vl r) (hl : r.length ≤ 1000) :
    Calls Try.prog 60 #[vl] w fun E w' => ∃ v, E = .returned v ∧ OwnG one 1 30 w.heap.size w' v (r.map Cw.v) ∧ Below w.heap.size w w' := by
  obtain ⟨ao, cap, hvl, _, _⟩ := h.1.shape
  have hcell : 0 < r.length → ∃ b1 o1 c1, vl = .slice (some ⟨b1, o1, none⟩) r.length c1 ∧ b1 < w.heap.size ∧ ∀ i c, r[i]? = some c → w.cell? ⟨b1, o1 + i * 3, none⟩ = some (.int .i64 c.e) ∧ w.cell? ⟨b1, o1 + i * 3 + 1, none⟩ = some (.int .i64 c.n) ∧ w.cell? ⟨b1, o1 + i * 3 + 2, none⟩ = some c.v := by
    intro hp
    obtain ⟨b1, o1, c1, hv, _, _, hB, hc⟩ := h.1.full hp
    exact ⟨b1, o1, c1, hv, hB, hc⟩
  have HC := hide hcell
  have HO : Hid (∀ c ∈ r, c.v.oneCell' = true) := hide h.2.one
  have HI := hide h.2
  subst hvl
  clear h hcell
  by_cases hz : r.length = 0
  · have : r = [] := List.eq_nil_of_length_eq_zero hz
    subst this
    go_enter Try.func60, Try.ntmps60
    go_wp2
    refine wp_loop_rounds 1 ?_
    rw [rounds_succ]
    go_wp2
    go_ret
    exact ⟨_, rfl, OwnG.nil _ _ _ _ _, Below.refl _ _⟩
  obtain ⟨b1, o1, c1, hv, hB, hcl⟩ := HC.out (by omega)
  simp only [Value.slice.injEq, true_and] at hv
  obtain ⟨rfl, rfl⟩ := hv
  have HCL := hide hcl
  obtain ⟨n, hn⟩ : ∃ n, r.length = n := ⟨_, rfl⟩
  rw [hn]
  have HN := hide hn
  rw [hn] at hl
  clear hcl HC hz hn
  go_enter Try.func60, Try.ntmps60
  go_wp2
  go_loopw [3, 4] (fun ov iv wr => ∃ k : Nat, k ≤ n ∧ iv = .int .i64 k ∧ Hid (OwnG one 1 30 w.heap.size wr ov ((r.map Cw.v).take k)) ∧ Below w.heap.size w wr) (fun _ iv _ => n - (intOf iv).toNat)
  case atStart => exact ⟨0, by omega, rfl, hide (OwnG.nil _ _ _ _ _), Below.refl _ _⟩
  case round =>
    obtain ⟨k, hk, rfl, ho, bel⟩ := hrel
    have sz := bel.size
    by_cases hlt : k < n
    · have hlt' : (k : Int) < n := by omega
      obtain ⟨c, hc⟩ := at_of (l := r) (k := k) (by rw [HN.out]; exact hlt)
      have d2 := (bel.cell (p := ⟨b1, o1 + k * 3 + 2, none⟩) hB).trans (HCL.out k c hc).2.2
      obtain ⟨ax, cx, hcv, _, _⟩ := (HI.out c (List.mem_of_getElem? hc)).1.shape
      rw [hcv] at d2
      have HR : Hid ((r.map Cw.v).take k ++ [.slice ax c.l.length cx] = (r.map Cw.v).take (k + 1)) := hide (by
        rw [List.take_add_one, List.getElem?_map, hc, ← hcv]; rfl)
      have hkl : ((r.map Cw.v).take k).length = k := by rw [List.length_take, List.length_map, HN.out]; omega
      have HKL := hide hkl
      obtain ⟨W, hW, szW, belW, ownW⟩ := lls_step wr (.slice ax c.l.length cx)
      have ho2 : OwnG one 1 30 w.heap.size W u3 ((r.map Cw.v).take k) := row_below ho.out belW
      have bel2 := bel.trans (belW.mono sz)
      have sz2 := bel2.size
      clear hc hkl hcv ho
      go_wp2_with (at_builtin; refine wpList_append_lls rfl (.tmp 11) (.tmp 17) rfl w.heap.size _ _ rfl ho2 _ _ rfl ownW.row (by simp [Value.oneCell']) (by rw [HKL.out, List.length_singleton]; omega) (by omega) ?_)
      intro v4 w4 own4 bel4 gr4
      rw [HR.out] at own4
      have H4 := hide own4
      have bel5 := bel2.trans bel4
      clear own4 bel4 gr4 ownW ho2 hW
      go_wp2
      go_roundw
      case rel => exact ⟨k + 1, by omega, by go_num, H4, bel5⟩
      case measure => simp [intOf]; omega
    · have hkn : k = n := by omega
      have hge : ¬ (k : Int) < n := by omega
      have H4 : Hid (OwnG one 1 30 w.heap.size wr u3 (r.map Cw.v)) := hide (by
        have := ho.out
        rw [List.take_of_length_le (by rw [List.length_map, HN.out]; omega)] at this
        exact this)
      clear ho
      go_wp2
      go_ret
      exact ⟨_, rfl, H4.out, bel⟩

/-- An epoch that is written over. -/
def nt (x : Int) : Int := bits BinOp.xor IntKind.i64 (if IntKind.i64.signed = true then -1 else 9223372036854775807) x
/-- A commit whose epoch is written over. -/
def ntC (c : Cw) : Cw := ⟨nt c.e, c.n, c.v, c.l⟩

/-- The first k written over. -/
def midC (l : List Cw) (k : Nat) : List Cw := (l.map ntC).take k ++ l.drop k

theorem midC_split (l : List Cw) (k : Nat) (h : k < l.length) : midC l k = (l.map ntC).take k ++ l[k] :: l.drop (k + 1) := by
  unfold midC
  rw [List.drop_eq_getElem_cons h]

theorem midC_next (l : List Cw) (k : Nat) (h : k < l.length) : midC l (k + 1) = (l.map ntC).take k ++ ntC l[k] :: l.drop (k + 1) := by
  unfold midC
  rw [List.take_succ_eq_append_getElem (by simpa using h), List.getElem_map, List.append_assoc]
  rfl

theorem midC_at (l : List Cw) (k : Nat) (h : k < l.length) : (ccells (midC l k))[k * 3]? = some (.int .i64 l[k].e) := by
  have hl : (ccells ((l.map ntC).take k)).length = k * 3 := by rw [ccells_len, List.length_take, List.length_map]; omega
  rw [midC_split l k h, ccells_app, List.getElem?_append_right (by omega), hl, show k * 3 - k * 3 = 0 by omega]
  rfl

theorem midC_set (l : List Cw) (k : Nat) (h : k < l.length) : (ccells (midC l k)).set (k * 3) (.int .i64 (nt l[k].e)) = ccells (midC l (k + 1)) := by
  have hl : (ccells ((l.map ntC).take k)).length = k * 3 := by rw [ccells_len, List.length_take, List.length_map]; omega
  rw [midC_split l k h, midC_next l k h, ccells_app, ccells_app, List.set_append_right _ _ (by omega), hl, show k * 3 - k * 3 = 0 by omega]
  rfl

/-- What stands in the spare room then. -/
def overK : List Value := [.int .i64 99, .int .i64 0, .slice none 0 0]

set_option maxHeartbeats 1000000 in
theorem overC_full (g n cap base : Nat) (l : List Cw) (w : World) (hn : l.length = n) (hown : w.ownsRow base 32 3 (.slice (some ⟨g, 0, none⟩) n cap) n (ccells l)) (hcm : cap ≤ maxLen) (hnc : n ≤ cap) :
    Calls Try.prog 61 #[.slice (some ⟨g, 0, none⟩) n cap] w fun e w' => e = .returned (.tuple #[]) ∧ w'.ownsRow base 32 3 (.slice (some ⟨g, 0, none⟩) n cap) n (ccells (l.map ntC)) ∧ w.grownBy w' (some g) := by
  unfold maxLen at hcm
  obtain ⟨i0, hi, hz0, hz1, hz2⟩ := info_parts Try.info32
  go_enter Try.func61, Try.ntmps61
  go_wp2
  go_loopw [3] (fun i wr => ∃ (k : Nat), k ≤ n ∧ i = .int .i64 k ∧ wr.ownsRow base 32 3 (.slice (some ⟨g, 0, none⟩) n cap) n (ccells (midC l k)) ∧ w.grownBy wr (some g)) (fun i _ => n - (intOf i).toNat)
  case atStart => exact ⟨0, by omega, rfl, by simpa [midC] using hown, World.grownBy.refl _ _⟩
  case round =>
    obtain ⟨k, hk, rfl, ho, hg⟩ := hrel
    by_cases hlt : k < n
    · have hz : k < l.length := by omega
      have g1 : wr.cell? ⟨g, k * 3, none⟩ = some (.int .i64 l[k].e) := by rw [ho.cellAt (k * 3) (by omega)]; exact midC_at l k hz
      have g2 := ho.frozenAt (k * 3)
      have hlt' : (k : Int) < n := by omega
      have hs := ho.stored (k * 3) (.int .i64 (nt l[k].e))
      rw [midC_set l k hz] at hs
      have HS := hide hs
      have HG := hide hg
      generalize l[k].e = ee at *
      clear hs ho hg
      go_wp2
      go_roundw
      case rel => exact ⟨k + 1, by omega, by go_num, HS.out.1, grown_trans HG.out HS.out.2⟩
      case measure => simp [intOf]; omega
    · have hkn : k = n := by omega
      have ho2 : wr.ownsRow base 32 3 (.slice (some ⟨g, 0, none⟩) n cap) n (ccells (l.map ntC)) := by
        have h1 : midC l k = l.map ntC := by
          unfold midC
          rw [List.take_of_length_le (by simp; omega), List.drop_eq_nil_of_le (by omega), List.append_nil]
        rw [h1] at ho
        exact ho
      obtain ⟨cs, hcs⟩ : ∃ cs, cs = ccells (l.map ntC) := ⟨_, rfl⟩
      rw [← hcs] at ho2
      have HCS := hide hcs
      clear ho hkn hcs
      go_wp2
      go_loopw [0] (fun lv wr => ∃ (m : Nat) (ys : List Value), n ≤ m ∧ m ≤ cap ∧ lv = .slice (some ⟨g, 0, none⟩) m cap ∧ wr.ownsRow base 32 3 (.slice (some ⟨g, 0, none⟩) m cap) m (cs ++ ys) ∧ w.grownBy wr (some g)) (fun lv _ => cap - lenOf lv)
      case atStart => exact ⟨n, [], Nat.le_refl _, hnc, rfl, by simpa using ho2, hg⟩
      case round =>
        obtain ⟨m, ys, hm1, hm2, rfl, ho3, hg3⟩ := hrel
        clear ho2 hg
        by_cases hlt2 : m < cap
        · have hlt3 : (m : Int) < cap := by omega
          go_wp2_with (at_builtin; refine wpList_append_fits _ rfl (.tmp 26) (.tmp 28) 34 rfl base 32 i0 3 Try.underlying34 hi hz1 g m cap _ rfl (ho3.alloc _) ⟨wr.heap.size, 0, none⟩ 1 1 overK rfl rfl (cells_three_new _ _ _ _ _) (by intro u hu; simp [overK] at hu; rcases hu with rfl | rfl | rfl <;> rfl) (by omega) ?_)
          intro w2 ho4 hg4
          have hg5 := grown_trans hg3 (grown_trans (World.grownBy_alloc _ _ _) hg4)
          clear ho3 hg3 hg4
          go_wp2
          go_roundw
          case rel => exact ⟨m + 1, ys ++ overK, by omega, by omega, rfl, by simpa using ho4, hg5⟩
          case measure => simp [lenOf]; omega
        · go_wp2
          go_end0
          refine ⟨rfl, ?_, hg3⟩
          have := own_frontO ho3 n hm1
          rw [List.take_left' (by rw [HCS.out, ccells_len, List.length_map, hn]), HCS.out] at this
          exact this

theorem overC_any (v : Value) (l : List Cw) (base : Nat) (w : World) (h : OwnR 32 base w v l) :
    Calls Try.prog 61 #[v] w fun e w' => e = .returned (.tuple #[]) ∧ OwnR 32 base w' v (l.map ntC) ∧ w.grownBy w' v.ownBlock := by
  rcases h.2 with ⟨hv, hn⟩ | ⟨g, cap, cur, hv, h1, hh, hc, hm, hs, ht⟩
  · have hz : l = [] := List.eq_nil_of_length_eq_zero hn
    subst hz hv
    go_enter Try.func61, Try.ntmps61
    go_wp2
    refine wp_loop_rounds 1 ?_
    rw [rounds_succ]
    go_wp2
    refine wp_loop_rounds 1 ?_
    rw [rounds_succ]
    go_wp2
    go_end0
    exact ⟨rfl, OwnR.nil _ _ _, World.grownBy.refl _ _⟩
  · subst hv
    refine (overC_full g l.length cap base l w rfl h hm hc).mono ?_
    rintro e w' ⟨rfl, ho, hg⟩
    exact ⟨rfl, by unfold OwnR; rw [List.length_map]; exact ho, hg⟩

theorem apartO_none (ao : Option Addr) (cap : Nat) (w : World) : Calls Try.prog 62 #[.slice ao 0 cap] w fun E w' => E = .returned (.bool true) ∧ Below w.heap.size w w' := by
  obtain ⟨i0, hi, hz0, hz1, hz2⟩ := info_parts Try.info30
  go_enter Try.func62, Try.ntmps62
  go_wp2_with (at_make; refine wpList_make_full _ rfl _ _ 96 rfl w.heap.size 30 i0 (.slice none 0 0) 1 Try.underlying96 hi hz0 hz1 _ _ _ _ 0 rfl rfl (by omega) (by omega) ?b2 ?b3 (Nat.le_refl _) ?_)
  case b2 => rw [hz2]; omega
  case b3 => unfold maxLen; omega
  intro w0 hown0 hgrow0
  have bel0 : Below w.heap.size w w0 := (Below.refl _ _).grown hgrow0 (Nat.le_refl _) (by simp)
  clear hown0 hgrow0
  go_wp2
  refine wp_loop_rounds 1 ?_
  rw [rounds_succ]
  go_wp2
  refine wp_loop_rounds 1 ?_
  rw [rounds_succ]
  go_wp2
  refine wp_loop_rounds 1 ?_
  rw [rounds_succ]
  go_wp2
  go_ret
  exact ⟨rfl, bel0⟩

end Go.Proofs.Ytimmohpnlieefaa
