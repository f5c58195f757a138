/- Texts of one layer, one behind the other. -/
import Derived.Test.YtkpnkknolobioaaG2
import Derived.Test.YtkpnkknolobioaaG13
import Derived.WalkMore
import Derived.Test.YtkpnkknolobioaaG10
import Derived.Test.YtkpnkknolobioaaG1
/- The contracts of OverBytes and ApartBytes. -/
namespace Go.Proofs.Ytkpnkknolobioaa
open Go.RowKit
set_option linter.unusedVariables false


/-- Go's complement of a byte, as the walk spells it. -/
def cpl (z : Int) : Int := bits BinOp.xor IntKind.u8 (if IntKind.u8.signed = true then -1 else IntKind.u8.max) z

theorem cpl_wf (z : Int) : (Lit.int .u8 (cpl z)).wf = true := wf_bits _ _ _ _

theorem mid_at (zs : List Int) (k : Nat) (h : k < zs.length) : (((zs.map cpl).take k ++ zs.drop k).map (Value.int .u8))[k]? = some (.int .u8 zs[k]) := by
  have hl : ((zs.map cpl).take k).length = k := by rw [List.length_take, List.length_map]; omega
  rw [List.getElem?_map, List.getElem?_append_right (by omega), hl, Nat.sub_self, List.drop_eq_getElem_cons h]
  rfl

theorem mid_set (zs : List Int) (k : Nat) (h : k < zs.length) : (((zs.map cpl).take k ++ zs.drop k).map (Value.int .u8)).set k (.int .u8 (cpl zs[k])) = ((zs.map cpl).take (k + 1) ++ zs.drop (k + 1)).map (Value.int .u8) := by
  have hl : ((zs.map cpl).take k).length = k := by rw [List.length_take, List.length_map]; omega
  have hl2 : (((zs.map cpl).take k).map (Value.int .u8)).length = k := by rw [List.length_map, hl]
  rw [List.drop_eq_getElem_cons h, List.map_append, List.set_append_right _ _ (by omega), hl2, Nat.sub_self, List.take_succ_eq_append_getElem (by simpa using h), List.map_cons, List.set_cons_zero]
  simp only [List.map_append, List.map_cons, List.append_assoc, List.cons_append, List.nil_append, List.getElem_map]



set_option maxHeartbeats 400000 in
theorem over_full (g n cap base : Nat) (zs : List Int) (w : World) (hn : zs.length = n) (hwf : ∀ z ∈ zs, (Lit.int .u8 z).wf = true) (hown : w.ownsRow base 5 1 (.slice (some ⟨g, 0, none⟩) n cap) n (zs.map (Value.int .u8))) (hcm : cap ≤ maxLen) (hnc : n ≤ cap) :
    Calls Try.prog 49 #[.slice (some ⟨g, 0, none⟩) n cap] w fun e w' => e = .returned (.tuple #[]) ∧ w'.ownsRow base 5 1 (.slice (some ⟨g, 0, none⟩) n cap) n ((zs.map cpl).map (Value.int .u8)) ∧ w.grownBy w' (some g) := by
  unfold maxLen at hcm
  obtain ⟨i0, hi, hz0, hz1, hz2⟩ := info_parts Try.info5
  go_enter Try.func49, Try.ntmps49
  go_wp2
  go_loopw [3] (fun i wr => ∃ (k : Nat), k ≤ n ∧ i = .int .i64 k ∧ wr.ownsRow base 5 1 (.slice (some ⟨g, 0, none⟩) n cap) n (((zs.map cpl).take k ++ zs.drop k).map (Value.int .u8)) ∧ w.grownBy wr (some g)) (fun i _ => n - (intOf i).toNat)
  case atStart => exact ⟨0, by omega, rfl, by simpa using hown, World.grownBy.refl _ _⟩
  case round =>
    obtain ⟨k, hk, rfl, ho, hg⟩ := hrel
    by_cases hlt : k < n
    · have hz : k < zs.length := by omega
      have g1 : wr.cell? ⟨g, k, none⟩ = some (.int .u8 zs[k]) := by rw [ho.cellAt k (by omega)]; exact mid_at zs k hz
      have g2 := ho.frozenAt k
      have hlt' : (k : Int) < n := by omega
      have hs := ho.stored k (.int .u8 (cpl zs[k]))
      rw [mid_set zs k hz] at hs
      have HS := hide hs
      have HG := hide hg
      clear hs ho hg
      go_wp2
      go_roundw
      case rel => exact ⟨k + 1, by omega, by go_num, HS.out.1, grown_trans HG.out HS.out.2⟩
      case measure => simp [intOf]; omega
    · have hkn : k = n := by omega
      have ho2 : wr.ownsRow base 5 1 (.slice (some ⟨g, 0, none⟩) n cap) n ((zs.map cpl).map (Value.int .u8)) := by
        have h1 : ((zs.map cpl).take k ++ zs.drop k) = zs.map cpl := by
          rw [List.take_of_length_le (by simp; omega), List.drop_eq_nil_of_le (by omega), List.append_nil]
        rw [h1] at ho
        exact ho
      obtain ⟨cs, hcs⟩ : ∃ cs, cs = (zs.map cpl).map (Value.int .u8) := ⟨_, rfl⟩
      rw [← hcs] at ho2
      have HCS := hide hcs
      clear ho hkn hcs
      go_wp2
      go_loopw [0] (fun l wr => ∃ (m : Nat) (ys : List Value), n ≤ m ∧ m ≤ cap ∧ l = .slice (some ⟨g, 0, none⟩) m cap ∧ wr.ownsRow base 5 1 (.slice (some ⟨g, 0, none⟩) m cap) m (cs ++ ys) ∧ w.grownBy wr (some g)) (fun l _ => cap - lenOf l)
      case atStart => exact ⟨n, [], Nat.le_refl _, hnc, rfl, by simpa using ho2, hg⟩
      case round =>
        obtain ⟨m, ys, hm1, hm2, rfl, ho3, hg3⟩ := hrel
        clear ho2 hg
        by_cases hlt2 : m < cap
        · have hlt3 : (m : Int) < cap := by omega
          go_wp2_with (at_builtin; refine wpList_append_fits _ rfl (.tmp 24) (.tmp 25) 25 rfl base 5 i0 1 Try.underlying25 hi hz1 g m cap _ rfl (ho3.alloc _) ⟨wr.heap.size, 0, none⟩ 1 1 [.int .u8 99] rfl rfl (cell_one_new _ _ _) (by intro u hu; simp at hu; subst hu; rfl) (by omega) ?_)
          intro w2 ho4 hg4
          have hg5 := grown_trans hg3 (grown_trans (World.grownBy_alloc _ _ _) hg4)
          clear ho3 hg3 hg4
          go_wp2
          go_roundw
          case rel => exact ⟨m + 1, ys ++ [.int .u8 99], by omega, by omega, rfl, ho4, hg5⟩
          case measure => simp [lenOf]; omega
        · go_wp2
          go_end0
          refine ⟨rfl, ?_, hg3⟩
          have := own_front ho3 n hm1
          rw [List.take_left' (by rw [HCS.out]; simpa using hn), HCS.out] at this
          exact this

theorem over_any (v : Value) (zs : List Int) (base : Nat) (w : World) (h : Own .u8 5 base w v zs) :
    Calls Try.prog 49 #[v] w fun e w' => e = .returned (.tuple #[]) ∧ Own .u8 5 base w' v (zs.map cpl) ∧ w.grownBy w' v.ownBlock := by
  have hwf : ∀ z ∈ zs.map cpl, (Lit.int .u8 z).wf = true := by
    intro z hz
    obtain ⟨y, _, rfl⟩ := List.mem_map.1 hz
    exact cpl_wf y
  rcases h.2.2 with ⟨hv, hn⟩ | ⟨g, cap, cur, hv, h1, hh, hc, hm, hs, ht⟩
  · have hz : zs = [] := List.eq_nil_of_length_eq_zero hn
    subst hz hv
    go_enter Try.func49, Try.ntmps49
    go_wp2
    refine wp_loop_rounds 1 ?_
    rw [rounds_succ]
    go_wp2
    refine wp_loop_rounds 1 ?_
    rw [rounds_succ]
    go_wp2
    go_end0
    exact ⟨rfl, Own.nil _ _ _ _, World.grownBy.refl _ _⟩
  · subst hv
    refine (over_full g zs.length cap base zs w rfl h.1 h.2 hm hc).mono ?_
    rintro e w' ⟨rfl, ho, hg⟩
    exact ⟨rfl, ⟨hwf, by rw [List.length_map]; exact ho⟩, hg⟩

theorem Try.info25 : (Try.prog.info? 25).map (fun i => (i.zero, i.size, i.bytes)) = some (some (.slice none 0 0), 1, 24) := by kernel_rfl



/-- What the lists are, ahead of ApartBytes. -/
structure Lists (m bl base : Nat) (w : World) (vs : Nat → Value) (zs : Nat → List Int) : Prop where
  cell : ∀ i, i < m → w.cell? ⟨bl, i, none⟩ = some (vs i)
  own : ∀ i, i < m → Own .u8 5 base w (vs i) (zs i)
  apart : ∀ i j, i < m → j < m → i ≠ j → (vs i).ownBlock = none ∨ (vs i).ownBlock ≠ (vs j).ownBlock
  table : ∀ i, i < m → (vs i).ownBlock ≠ some bl
  lens : ∀ i, i < m → (zs i).length ≤ 150000000000000

/-- Behind the first loop: a copy of each. -/
structure Copies (m bl base : Nat) (w0 wr : World) (vs us : Nat → Value) (zs : Nat → List Int) (k : Nat) : Prop where
  cell : ∀ i, i < m → wr.cell? ⟨bl, i, none⟩ = some (vs i)
  was : ∀ i, i < m → wr.cell? ⟨w0.heap.size, i, none⟩ = some (us i)
  new : ∀ i, i < m → Own .u8 5 (w0.heap.size + 1) wr (us i) (zs i)
  done : ∀ i, i < k → i < m → Own .u8 5 base wr (vs i) ((zs i).map cpl)
  left : ∀ i, k ≤ i → i < m → Own .u8 5 base wr (vs i) (zs i)
  below : Below base w0 wr
  keep : ∀ g, g < w0.heap.size → (∀ i, i < m → (vs i).ownBlock ≠ some g) → wr.heap[g]? = w0.heap[g]?

theorem copies_step {m B k : Nat} {w wr w1 : World} {xs : List Value} {u : Value} {zs : Nat → List Int} (hk : k < m) (ho : w1.ownsRow B 25 1 (.slice (some ⟨B, 0, none⟩) m m) m xs)
    (hc : ∀ j, j < k → Own .u8 5 (B + 1) wr (xs.getD j (.slice none 0 0)) (zs j)) (bel : Below B w wr) (hs : B < wr.heap.size) (ownu : Own .u8 5 wr.heap.size w1 u (zs k)) (belu : Below wr.heap.size wr w1) :
    (w1.setCell ⟨B, k, none⟩ u).ownsRow B 25 1 (.slice (some ⟨B, 0, none⟩) m m) m (xs.set k u) ∧ (∀ j, j < k + 1 → Own .u8 5 (B + 1) (w1.setCell ⟨B, k, none⟩ u) ((xs.set k u).getD j (.slice none 0 0)) (zs j)) ∧
      Below B w (w1.setCell ⟨B, k, none⟩ u) ∧ B < (w1.setCell ⟨B, k, none⟩ u).heap.size := by
  have hst := ho.stored k u
  have hl : xs.length = m := by have := ho.1; omega
  refine ⟨hst.1, fun j hj => ?_, (bel.trans (belu.mono (by omega))).setCell (Nat.le_refl _) _, ?_⟩
  · by_cases hjk : j = k
    · subst hjk
      have e : (xs.set j u).getD j (.slice none 0 0) = u := by simp [hl, hk]
      rw [e]
      refine (ownu.rebase (by omega)).kept hst.2 ?_
      cases hb : u.ownBlock with
      | none => exact .inl rfl
      | some b => exact .inr (by have := ownu.block b hb; simp; omega)
    · have e : (xs.set k u).getD j (.slice none 0 0) = xs.getD j (.slice none 0 0) := by
        simp [List.getD, List.getElem?_set_ne (Ne.symm hjk)]
      rw [e]
      have h1 := hc j (by omega)
      refine (h1.below belu).kept hst.2 ?_
      cases hb : (xs.getD j (.slice none 0 0)).ownBlock with
      | none => exact .inl rfl
      | some b => exact .inr (by have := h1.block b hb; simp; omega)
  · have := hst.2.size
    have := belu.size
    omega

theorem copies_start {m bl B base : Nat} {w wr : World} {xs : List Value} {vs : Nat → Value} {zs : Nat → List Int} (hB : B = w.heap.size) (hm0 : 0 < m) (hbase : base ≤ B) (H : Lists m bl base w vs zs) (ho : wr.ownsRow B 25 1 (.slice (some ⟨B, 0, none⟩) m m) m xs)
    (hc : ∀ j, j < m → Own .u8 5 (B + 1) wr (xs.getD j (.slice none 0 0)) (zs j)) (bel : Below B w wr) : Copies m bl base w wr vs (fun j => xs.getD j (.slice none 0 0)) zs 0 := by
  subst hB
  have hl : xs.length = m := by have := ho.1; omega
  exact ⟨fun i hi => (bel.cell (p := ⟨bl, i, none⟩) (World.block_lt_of_cell? _ _ (H.cell i hi))).trans (H.cell i hi),
    fun i hi => by rw [ho.cellAt i (by omega)]; simp [List.getD, List.getElem?_eq_getElem (show i < xs.length by omega)],
    hc, fun i h0 => absurd h0 (by omega), fun i _ hi => (H.own i hi).below bel, bel.mono hbase, fun g hg _ => bel.block g hg⟩

theorem copies_over {m bl base k : Nat} {w wr w2 : World} {vs us : Nat → Value} {zs : Nat → List Int} (hk : k < m) (hbase : base ≤ w.heap.size) (hsz : w.heap.size ≤ wr.heap.size) (H : Lists m bl base w vs zs) (C : Copies m bl base w wr vs us zs k)
    (ho : Own .u8 5 base w2 (vs k) ((zs k).map cpl)) (hg : wr.grownBy w2 (vs k).ownBlock) : Copies m bl base w w2 vs us zs (k + 1) := by
  have hvk : ∀ b, (vs k).ownBlock = some b → base ≤ b ∧ b < w.heap.size := (H.own k hk).block
  have other : ∀ i, i < m → i ≠ k → (vs i).ownBlock = none ∨ (vs i).ownBlock ≠ (vs k).ownBlock := fun i hi hne => H.apart i k hi hk hne
  refine ⟨fun i hi => hg.cell (C.cell i hi) (fun e => H.table k hk e.symm), fun i hi => hg.cell (C.was i hi) (fun e => by have := hvk _ e.symm; simp at this), fun i hi => (C.new i hi).kept hg ?_, fun i h1 hi => ?_, fun i h1 hi => ?_, ?_, fun g hlt hn => (hg.block g (by omega) (fun e => hn k hk e.symm)).trans (C.keep g hlt hn)⟩
  · cases hb : (us i).ownBlock with
    | none => exact .inl rfl
    | some b =>
      refine .inr fun e => ?_
      have h1 := (C.new i hi).block b hb
      have h2 := hvk b e.symm
      omega
  · by_cases e : i = k
    · subst e; exact ho
    · exact (C.done i (by omega) hi).kept hg (other i hi e)
  · exact (C.left i (by omega) hi).kept hg (other i hi (by omega))
  · exact C.below.grown hg (by omega) (fun b hb => (hvk b hb).1)




set_option maxHeartbeats 800000 in
theorem apart_keeps (m bl cl base : Nat) (vs : Nat → Value) (zs : Nat → List Int) (w : World) (hm : m ≤ 1000000000) (hcl : m ≤ cl) (hbase : base ≤ w.heap.size) (h : Lists m bl base w vs zs) (hm0 : 0 < m) :
    Calls Try.prog 25 #[.slice (some ⟨bl, 0, none⟩) m cl] w fun e w' => e = .returned (.bool true) ∧ Below base w w' ∧ (∀ g, g < w.heap.size → (∀ i, i < m → (vs i).ownBlock ≠ some g) → w'.heap[g]? = w.heap[g]?) := by
  obtain ⟨i0, hi, hz0, hz1, hz2⟩ := info_parts Try.info25
  have hbl : bl < w.heap.size := World.block_lt_of_cell? _ _ (h.cell 0 hm0)
  have H := hide h
  clear h
  go_enter Try.func25, Try.ntmps25
  go_wp2_with (at_make; refine wpList_make_full _ rfl _ _ 49 rfl w.heap.size 25 i0 (.slice none 0 0) 1 Try.underlying49 hi hz0 hz1 _ _ _ _ m rfl rfl (by omega) (by omega) ?b2 ?b3 (Nat.le_refl _) ?_)
  case b2 => rw [hz2]; omega
  case b3 => unfold maxLen; omega
  intro w0 hown0 hgrow0
  have bel0 : Below w.heap.size w w0 := (Below.refl _ _).grown hgrow0 (Nat.le_refl _) (by simp)
  obtain ⟨xs0, hown1⟩ : ∃ xs0, w0.ownsRow w.heap.size 25 1 (.slice (some ⟨w.heap.size, 0, none⟩) m m) m xs0 := ⟨_, hown0⟩
  clear hown0 hgrow0
  go_wp2
  go_loopw [4] (fun ii wr => ∃ (k : Nat) (xs : List Value), k ≤ m ∧ ii = .int .i64 k ∧ wr.ownsRow w.heap.size 25 1 (.slice (some ⟨w.heap.size, 0, none⟩) m m) m xs ∧ (∀ j, j < k → Own .u8 5 (w.heap.size + 1) wr (xs.getD j (.slice none 0 0)) (zs j)) ∧ Below w.heap.size w wr ∧ w.heap.size < wr.heap.size) (fun ii _ => m - (intOf ii).toNat)
  case atStart => exact ⟨0, xs0, by omega, rfl, hown1, fun j hj => absurd hj (by omega), bel0, (hown1.lt _ rfl).2⟩
  case round =>
    clear hown1 bel0
    obtain ⟨k, xs, hk, rfl, ho, hcop, bel, hsz⟩ := hrel
    have HC := hide hcop
    clear hcop
    by_cases hlt : k < m
    · have g1 := (bel.cell (p := ⟨bl, k, none⟩) hbl).trans (H.out.cell k hlt)
      have hlt' : (k : Int) < m := by omega
      have hxl : xs.length = m := by have := ho.1; omega
      go_wp2_with (go_at_call 35; refine (copy_any _ _ _ (((H.out.own k hlt).is).below bel) (H.out.lens k hlt)).mono ?_; rintro E w1 ⟨u, rfl, ownu, belu⟩; have ho1 := ownrow_below ho belu; have g2 := (ho1.cellAt k (by omega)).trans (List.getElem?_eq_getElem (by rw [hxl]; exact hlt)); have g3 := ho1.frozenAt k; obtain ⟨au, cu, rfl, _, _⟩ := ownu.is.shape)
      have R := copies_step hlt ho1 HC.out bel hsz ownu belu
      clear ho1 ownu belu g1 g2 g3 ho
      go_roundw
      case rel => exact ⟨k + 1, xs.set k _, by omega, by go_num, R.1, R.2.1, R.2.2.1, R.2.2.2⟩
      case measure => simp [intOf]; omega
    · have hkm : k = m := by omega
      have C0 := copies_start rfl hm0 hbase H.out ho (by have := HC.out; rw [hkm] at this; exact this) bel
      generalize (fun j => xs.getD j (.slice none 0 0)) = us at C0
      clear ho HC hkm
      go_wp2
      go_loopw [5] (fun ii wr => ∃ (k : Nat), k ≤ m ∧ ii = .int .i64 k ∧ Copies m bl base w wr vs us zs k ∧ w.heap.size < wr.heap.size) (fun ii _ => m - (intOf ii).toNat)
      case atStart => exact ⟨0, by omega, rfl, C0, hsz⟩
      case round =>
        clear C0 bel hsz hlt hk
        obtain ⟨i, hi, rfl, C, hsz⟩ := hrel
        have HC := hide C
        by_cases hlt : i < m
        · have g1 := C.cell i hlt
          have g2 := C.was i hlt
          have hlt' : (i : Int) < m := by omega
          have o1 := C.left i (Nat.le_refl _) hlt
          have o2 := C.new i hlt
          have hl := H.out.lens i hlt
          clear C
          go_wp2
          go_quiet ((go_at_call 20; refine Calls.quiet_of (same_bool _ _ _ _ true _ (o1.is.drewN _) (o2.is.drewN _) hl hl (by simp))))
          go_wp2_with fail
          refine (over_any _ _ base _ (o1.drewN nq)).mono ?_
          rintro E w2 ⟨rfl, o3, hg3⟩
          have C2 := copies_over hlt hbase (by omega) H.out HC.out o3 (grown_trans (grown_drewN _ _ _) hg3)
          have hs2 : w.heap.size < w2.heap.size := by have := hg3.size; simp at this; omega
          clear o1 o2 o3 hg3 HC g1 g2 hl
          go_wp2
          go_roundw
          case rel => exact ⟨i + 1, by omega, by go_num, C2, hs2⟩
          case measure => simp [intOf]; omega
        · have him : i = m := by omega
          subst him
          clear hlt
          go_wp2
          go_loopw [6, 7] (fun ii _ wx => ∃ (k n : Nat), k ≤ i ∧ ii = .int .i64 k ∧ wx = wr.drewN n) (fun ii _ _ => i - (intOf ii).toNat)
          case atStart => exact ⟨0, 0, by omega, rfl, rfl⟩
          case round =>
            obtain ⟨k, n, hk, rfl, rfl⟩ := hrel
            by_cases hlt : k < i
            · have g1 := C.cell k hlt
              have g2 := C.was k hlt
              have hlt' : (k : Int) < i := by omega
              have o1 := C.done k hlt hlt
              have o2 := C.new k hlt
              have hl := H.out.lens k hlt
              clear C
              by_cases hz : 0 < (zs k).length
              · obtain ⟨b1, f1, c1, hv1, hc1, hm1, _, he1⟩ := o1.is.full (by simpa using hz)
                obtain ⟨b2, f2, c2, hv2, hc2, hm2, _, he2⟩ := o2.is.full hz
                rw [hv1, List.length_map] at g1
                rw [hv2] at g2
                rw [List.length_map] at hc1 he1
                have H1 := hide he1
                have H2 := hide he2
                clear he1 he2 hv1 hv2 o1 o2
                generalize hL : (zs k).length = L at *
                have HLL := hide hL
                clear hL
                go_wp2
                go_loopw [7] (fun kk wx => ∃ (j n : Nat), j ≤ L ∧ kk = .int .i64 j ∧ wx = wr.drewN n) (fun kk _ => L - (intOf kk).toNat)
                case atStart => exact ⟨0, n, by omega, rfl, rfl⟩
                case round =>
                  obtain ⟨j, n2, hj, rfl, rfl⟩ := hrel
                  by_cases hjl : j < L
                  · have hjl' : (j : Int) < L := by omega
                    have g3 := H1.out j hjl
                    have g4 := H2.out j hjl
                    rw [getD_map cpl (zs k) j (by rw [HLL.out]; exact hjl)] at g3
                    generalize (zs k).getD j 0 = z at *
                    have q : (cpl z != bits BinOp.xor IntKind.u8 (if IntKind.u8.signed = true then -1 else IntKind.u8.max) z) = false := by simp [cpl]
                    go_wp2
                    go_quiet (fail)
                    go_wp2
                    go_roundw
                    case rel => exact ⟨j + 1, _, by omega, by go_num, rfl⟩
                    case measure => simp [intOf]; omega
                  · go_wp2
                    go_roundw
                    case rel => exact ⟨k + 1, _, by omega, by go_num, rfl⟩
                    case measure => simp [intOf]; omega
              · obtain ⟨a1, c1, hv1, hc1, hm1⟩ := o1.is.shape
                have hz0 : (zs k).length = 0 := by omega
                rw [hv1, List.length_map, hz0] at g1
                clear hv1 hc1 o1 o2 g2 hl hz0 hz
                go_wp2
                refine wp_loop_rounds 1 ?_
                rw [rounds_succ]
                go_wp2
                go_roundw
                case rel => exact ⟨k + 1, _, by omega, by go_num, rfl⟩
                case measure => simp [intOf]; omega
            · go_wp2
              go_ret
              exact ⟨rfl, below_drewN C.below _, C.keep⟩

theorem apart_yes (m bl cl base : Nat) (vs : Nat → Value) (zs : Nat → List Int) (w : World) (hm : m ≤ 1000000000) (hcl : m ≤ cl) (hbase : base ≤ w.heap.size) (h : Lists m bl base w vs zs) (hm0 : 0 < m) :
    Calls Try.prog 25 #[.slice (some ⟨bl, 0, none⟩) m cl] w fun e w' => e = .returned (.bool true) ∧ Below base w w' :=
  (apart_keeps m bl cl base vs zs w hm hcl hbase h hm0).mono (by rintro E w' ⟨h1, h2, _⟩; exact ⟨h1, h2⟩)

/-- Two lists in a table. -/
def two {α : Type} (a b : α) : Nat → α | 0 => a | _ => b

theorem lists_two {base : Nat} {w : World} {va vc : Value} {za zc : List Int} {s2 : Nat} (ha : Own .u8 5 base w va za) (hc : Own .u8 5 s2 w vc zc)
    (h2 : ∀ b, va.ownBlock = some b → b < s2) (hb1 : base ≤ s2) (la : za.length ≤ 150000000000000) (lc : zc.length ≤ 150000000000000) :
    Lists 2 w.heap.size base (w.alloc (.cells #[va, vc] 25)) (two va vc) (two za zc) := by
  have bel : Below w.heap.size w (w.alloc (.cells #[va, vc] 25)) := (Below.refl _ _).alloc (Nat.le_refl _) _
  have ha' := ha.below bel
  have hc' := (hc.below bel).rebase (by omega : base ≤ s2)
  have either : ∀ i, i < 2 → i = 0 ∨ i = 1 := by omega
  have ba := ha.block
  have bc := hc.block
  refine ⟨fun i hi => ?_, fun i hi => ?_, fun i j hi hj hne => ?_, fun i hi => ?_, fun i hi => ?_⟩
  · rcases either i hi with rfl | rfl <;> simp [two]
  · rcases either i hi with rfl | rfl
    · exact ha'
    · exact hc'
  · have key : ∀ u v : Value, (∀ b d, u.ownBlock = some b → v.ownBlock = some d → b ≠ d) → u.ownBlock = none ∨ u.ownBlock ≠ v.ownBlock := by
      intro u v h
      cases hu : u.ownBlock with
      | none => exact .inl rfl
      | some b => exact .inr fun e => h b b hu e.symm rfl
    rcases either i hi with rfl | rfl <;> rcases either j hj with rfl | rfl <;> first | exact absurd rfl hne | skip
    all_goals
      refine key _ _ fun b d hb hd => ?_
      simp only [two] at hb hd
    · have := h2 b hb; have := bc d hd; omega
    · have := bc b hb; have := h2 d hd; omega
  · intro e
    rcases either i hi with rfl | rfl
    · have := ba _ e; omega
    · have := bc _ e; omega
  · rcases either i hi with rfl | rfl
    · exact la
    · exact lc

theorem lists_three {base : Nat} {w : World} {va vc vf : Value} {za zc zf : List Int} {s1 s2 : Nat} (ha : Own .u8 5 s1 w va za) (hc : Own .u8 5 s2 w vc zc) (hf : Own .u8 5 base w vf zf)
    (h1 : ∀ b, vf.ownBlock = some b → b < s1) (h2 : ∀ b, va.ownBlock = some b → b < s2) (hb1 : base ≤ s1) (h12 : s1 ≤ s2) (la : za.length ≤ 150000000000000) (lc : zc.length ≤ 150000000000000) (lf : zf.length ≤ 150000000000000) :
    Lists 3 w.heap.size base (w.alloc (.cells #[va, vc, vf] 25)) (tri va vc vf) (tri za zc zf) := by
  have bel : Below w.heap.size w (w.alloc (.cells #[va, vc, vf] 25)) := (Below.refl _ _).alloc (Nat.le_refl _) _
  have ha' := (ha.below bel).rebase (by omega : base ≤ s1)
  have hc' := (hc.below bel).rebase (by omega : base ≤ s2)
  have hf' := hf.below bel
  have three : ∀ i, i < 3 → i = 0 ∨ i = 1 ∨ i = 2 := by omega
  have ba := ha.block
  have bc := hc.block
  have bf := hf.block
  refine ⟨fun i hi => ?_, fun i hi => ?_, fun i j hi hj hne => ?_, fun i hi => ?_, fun i hi => ?_⟩
  · rcases three i hi with rfl | rfl | rfl <;> simp [tri]
  · rcases three i hi with rfl | rfl | rfl
    · exact ha'
    · exact hc'
    · exact hf'
  · have key : ∀ u v : Value, (∀ b d, u.ownBlock = some b → v.ownBlock = some d → b ≠ d) → u.ownBlock = none ∨ u.ownBlock ≠ v.ownBlock := by
      intro u v h
      cases hu : u.ownBlock with
      | none => exact .inl rfl
      | some b => exact .inr fun e => h b b hu e.symm rfl
    rcases three i hi with rfl | rfl | rfl <;> rcases three j hj with rfl | rfl | rfl <;> first | exact absurd rfl hne | skip
    all_goals
      refine key _ _ fun b d hb hd => ?_
      simp only [tri] at hb hd
    · have := h2 b hb; have := bc d hd; omega
    · have := ba b hb; have := h1 d hd; omega
    · have := bc b hb; have := h2 d hd; omega
    · have := bc b hb; have := h1 d hd; omega
    · have := h1 b hb; have := ba d hd; omega
    · have := h1 b hb; have := bc d hd; omega
  · intro e
    rcases three i hi with rfl | rfl | rfl
    · have := ba _ e; omega
    · have := bc _ e; omega
    · have := bf _ e; omega
  · rcases three i hi with rfl | rfl | rfl
    · exact la
    · exact lc
    · exact lf

end Go.Proofs.Ytkpnkknolobioaa

/- frame.Scan. -/
namespace Go.Proofs.Ytkpnkknolobioaa
open Go.RowKit
set_option linter.unusedVariables false

/-- The lists of a row. -/
def lsts (r : List Bw) : List (List Int) := r.map Bw.l

theorem lsts_len (r : List Bw) : (lsts r).length = r.length := List.length_map ..
theorem lsts_app (r : List Bw) (a : Bw) : lsts (r ++ [a]) = lsts r ++ [a.l] := by simp [lsts]

/-- Gathered so far. -/
def Got (bs : List Int) (r : List Bw) : Prop := (∀ a ∈ r, a.l.length ≤ 131072) ∧ Fm.cat (lsts r) <+: bs

theorem Got.nil (bs : List Int) : Got bs [] := ⟨by simp, by simp [lsts, Fm.cat]⟩

theorem Got.next {bs z : List Int} {r : List Bw} {n : Nat} {v : Value} (h : Got bs r) (hr : Fm.Rd (bs.drop (Fm.cat (lsts r)).length) z n 0) : Got bs (r ++ [⟨v, z⟩]) ∧ (Fm.cat (lsts (r ++ [⟨v, z⟩]))).length = (Fm.cat (lsts r)).length + n ∧ 1 ≤ n ∧ z.length ≤ 131072 := by
  rcases hr with ⟨_, h1, h2, h3⟩ | ⟨h0, _⟩
  · obtain ⟨g1, g2⟩ := Fm.sc_next h.2 h3
    have e : lsts (r ++ [⟨v, z⟩]) = lsts r ++ [z] := lsts_app r ⟨v, z⟩
    rw [e]
    have hz := Vm.sz_pos z.length
    refine ⟨⟨fun a ha => ?_, by rw [e]; exact g1⟩, by omega, by omega, h1⟩
    rcases List.mem_append.1 ha with ha | ha
    · exact h.1 a ha
    · simp at ha
      subst ha
      exact h1
  · cases h0

theorem Got.le {bs : List Int} {r : List Bw} (h : Got bs r) : (Fm.cat (lsts r)).length ≤ bs.length ∧ r.length ≤ (Fm.cat (lsts r)).length := by
  refine ⟨h.2.length_le, ?_⟩
  have := Fm.cat_len (lsts r)
  rw [lsts_len] at this
  exact this

theorem Got.done {bs z : List Int} {r : List Bw} {n : Nat} (h : Got bs r) (hr : Fm.Rd (bs.drop (Fm.cat (lsts r)).length) z n 5) : Fm.Sc bs (lsts r) := by
  rcases hr with ⟨h0, _⟩ | ⟨_, _, _, h3⟩
  · cases h0
  · refine ⟨fun q hq => ?_, h.2, h3⟩
    obtain ⟨a, ha, rfl⟩ := List.mem_map.1 hq
    exact h.1 a ha

end Go.Proofs.Ytkpnkknolobioaa

/- The document's Append and Read. -/
namespace Go.Proofs.Ytkpnkknolobioaa
open Go.RowKit
set_option linter.unusedVariables false

theorem fputR_any (vb : Value) (bs : List Int) (x : Int) (w : World) (hb : Is .u8 w vb bs) (hl : bs.length ≤ 140737488352900) (h0 : 0 ≤ x) (h1 : x < 9223372036854775808) :
    Calls Try.prog 39 #[vb, .int .i64 x] w fun e w' => ∃ v, e = .returned v ∧ Own .u8 5 w.heap.size w' v (bs ++ Vm.enc x.toNat) ∧ Below w.heap.size w w' := by
  go_enter Try.func39, Try.ntmps39
  go_wp2_with fail
  refine (appR_any _ bs x _ hb (by omega) (by omega) (by omega)).mono ?_
  rintro E w1 ⟨v1, rfl, own1, bel1⟩
  go_wp2
  go_ret
  exact ⟨_, rfl, own1, bel1⟩

set_option maxHeartbeats 1000000 in
theorem fappR_any (vb vr : Value) (bs r : List Int) (w : World) (hb : Is .u8 w vb bs) (hr : Is .u8 w vr r) (hl : bs.length ≤ 140737488351232) (hl' : r.length ≤ 140737488351232) :
    Calls Try.prog 40 #[vb, vr] w fun E w' => ∃ v', E = .returned (.tuple #[v', .int .i64 (ape r)]) ∧ Own .u8 5 w.heap.size w' v' (apd bs r) ∧ Below w.heap.size w w' := by
  obtain ⟨ro, rc, hv, hcap, hcm⟩ := hr.shape
  subst hv
  have HR := hide hr
  clear hr
  by_cases hlong : r.length ≤ 131072
  · have e1 : ape r = 0 := if_pos hlong
    have e2 : apd bs r = bs ++ Vm.enc r.length ++ r := by unfold apd Fm.frm; rw [if_pos hlong, List.append_assoc]
    rw [e1, e2]
    have hn : ¬ (131072 : Int) < (r.length : Int) := by omega
    have hz : (Vm.enc r.length).length ≤ 3 := Fm.sz3 hlong
    have C1 := hide (fputR_any vb bs (r.length : Int) w hb (by omega) (by omega) (by omega))
    rw [Int.toNat_natCast] at C1
    clear e1 e2 hb
    go_enter Try.func40, Try.ntmps40
    go_wp2_with fail
    refine C1.out.mono ?_
    rintro E w1 ⟨v1, rfl, own1, bel1⟩
    clear C1
    have hr1 := HR.out.below bel1
    have sum : (bs ++ Vm.enc r.length).length + r.length ≤ 150000000000000 := by rw [List.length_append]; omega
    have s1 := bel1.size
    generalize hq : bs ++ Vm.enc r.length = q at *
    have HQ := hide hq
    clear hq
    go_wp2_with (at_builtin; refine wpList_append_is rfl (.tmp 14) (.tmp 15) 25 rfl .u8 5 w.heap.size 1 Try.underlying25 Try.info5 (by decide) _ q rfl own1 _ r rfl hr1 (by simp; omega) s1 ?_)
    intro v2 w2 own2 bel2 _
    have b3 := bel1.trans bel2
    rw [← HQ.out] at own2
    clear own1 hr1 bel1 bel2
    go_wp2
    go_ret2
    exact ⟨_, rfl, own2, b3⟩
  · have e1 : ape r = 3 := if_neg hlong
    have e2 : apd bs r = [] := if_neg hlong
    rw [e1, e2]
    have hn : (131072 : Int) < (r.length : Int) := by omega
    go_enter Try.func40, Try.ntmps40
    go_wp2
    go_ret2
    exact ⟨_, rfl, Own.nil _ _ _ _, Below.refl _ _⟩

/-- A count, and then its bytes, by the reader. -/
theorem rdr_rd {bs zs : List Int} {u a1 a2 : Nat} {b1 b2 : Bool} (h1 : SStep bs 131072 0 false u a1 b1) (h2 : BStep bs u a1 b1 zs a2 b2) :
    (b2 = false ∧ Fm.Rd bs zs a2 0) ∨ (b2 = true ∧ Fm.Rd bs [] 0 5) := by
  rcases h1 with ⟨h, _⟩ | ⟨_, rfl, rfl, rfl, hno⟩ | ⟨_, rfl, hu, hp, rfl⟩
  · cases h
  · rcases h2 with ⟨_, rfl, rfl, rfl⟩ | ⟨h, _⟩
    · exact .inr ⟨rfl, rd_bad (by simpa using hno)⟩
    · cases h
  · rw [List.drop_zero] at hp
    rw [Nat.zero_add] at h2
    rcases h2 with ⟨h, rfl, rfl, rfl⟩ | ⟨_, h, rfl, rfl, rfl⟩
    · have h : bs.length - Vm.sz u < u := by simpa using h
      exact .inr ⟨rfl, rd_short hp h⟩
    · exact .inl ⟨rfl, rd_good hp hu h⟩

set_option maxHeartbeats 2000000 in
theorem freadR_any (vb : Value) (bs : List Int) (w : World) (hb : Is .u8 w vb bs) (hl : bs.length ≤ 150000000000000) :
    Calls Try.prog 78 #[vb] w fun E w' => ∃ (v : Value) (r : List Int) (n : Nat) (e : Int), E = .returned (.tuple #[v, .int .i64 n, .int .i64 e]) ∧ Own .u8 5 w.heap.size w' v r ∧ Below w.heap.size w w' ∧ Hid (Fm.Rd bs r n e) := by
  obtain ⟨ao, cap, rfl, _, _⟩ := hb.shape
  obtain ⟨W1, hW1, sz1, bel1, blk1⟩ := blk_step w #[.slice ao bs.length cap, .int .i64 0, .bool false] 105
  have r1 : Rdr w W1 w.heap.size (.slice ao bs.length cap) bs 0 false := ⟨hb, by omega, bel1, blk1, by omega⟩
  have C1 := hide (rsmall_any w W1 w.heap.size _ bs 0 false 131072 r1 hl (by omega))
  clear blk1 hb r1 bel1
  go_enter Try.func78, Try.ntmps78
  go_wp2_with fail
  refine C1.out.mono ?_
  rintro E w2 ⟨u, a1, b1, rfl, r2, g2, hs⟩
  have hu : u ≤ 131072 := by
    rcases hs with ⟨h, _⟩ | ⟨_, _, h, _⟩ | ⟨_, _, h, _⟩
    · cases h
    · omega
    · exact h
  have C2 := hide (rbytes_any w w2 w.heap.size _ bs a1 b1 u r2 hl (by omega))
  have HS := hide hs
  have S2 := r2.2.2.1.size
  clear C1 hs r2 g2
  go_wp2_with fail
  refine C2.out.mono ?_
  rintro E w3 ⟨v3, zs, a2, b2, rfl, own3, r3, _, hb3⟩
  have B3 := hide r3.2.2.1
  have O3 := hide (own3.rebase S2)
  have k1 := r3.cell1
  have k2 := r3.cell2
  have RD := hide (rdr_rd HS.out hb3)
  clear C2 HS own3 r3 hb3
  cases b2
  · have R : Hid (Fm.Rd bs zs a2 0) := hide (by rcases RD.out with h | h; exact h.2; cases h.1)
    clear RD
    go_wp2_with fail
    go_quiet (fail)
    go_wp2
    go_ret3
    exact ⟨_, zs, a2, 0, rfl, O3.out.drewN _, below_drewN B3.out _, R⟩
  · have R : Hid (Fm.Rd bs [] 0 5) := hide (by rcases RD.out with h | h; cases h.1; exact h.2)
    clear RD
    go_wp2
    go_ret3
    exact ⟨_, [], 0, 5, rfl, Own.nil _ _ _ _, B3.out, R⟩

end Go.Proofs.Ytkpnkknolobioaa

/- The document's Frame: a commit's record. -/
namespace Go.Proofs.Ytkpnkknolobioaa
open Go.RowKit
set_option linter.unusedVariables false

set_option maxHeartbeats 1000000 in
theorem frameX_any (e n : Int) (v : Value) (l : List Bm.Ov) (w : World) (h : IsO w v l) (hf : FitO l) (hl : l.length ≤ 140737488355328) (hc : Cm.chk e n l = 0) :
    Calls Try.prog 41 #[cmv e n v] w fun E w' => ∃ vb, E = .returned vb ∧ Own .u8 5 w.heap.size w' vb (Wl.fr ⟨e, n, l⟩) ∧ Below w.heap.size w w' := by
  obtain ⟨ao, cap, hv, _, _⟩ := h.shape
  obtain ⟨w1, hw1, sz1, bel1, hB⟩ := blk_step w #[.int .i64 e, .int .i64 n, v] 32
  have c0 : w1.cell? ⟨w.heap.size, 0, none⟩ = some (.int .i64 e) := blk_cell hB 0 rfl
  have c1 : w1.cell? ⟨w.heap.size, 1, none⟩ = some (.int .i64 n) := blk_cell hB 1 rfl
  have c2 : w1.cell? ⟨w.heap.size, 2, none⟩ = some v := blk_cell hB 2 rfl
  have HC := hide (cencR_any e n v l w1 (h.below bel1) hf hl)
  unfold cmv at HC ⊢
  rw [hv] at hw1 c2 HC ⊢
  have KC := hide hc
  clear h hf hl hB hv hc
  go_enter Try.func41, Try.ntmps41
  go_wp2_with fail
  refine HC.out.mono ?_
  rintro E w2 ⟨vb, rfl, own, bel2⟩
  have bel02 := bel1.trans (bel2.mono bel1.size)
  obtain ⟨ab, cb, hvb, _, _⟩ := own.is.shape
  have hz : (Cm.out e n l).length ≤ 430 := Cm.out_small e n l
  have HF := hide (fappR_any (.slice none 0 0) vb [] (Cm.out e n l) w2 (Is.nil _ _) own.is (by simp) (by omega))
  have ea : ape (Cm.out e n l) = 0 := by unfold ape; rw [if_pos (by omega)]
  have ed : apd [] (Cm.out e n l) = Wl.fr ⟨e, n, l⟩ := by
    unfold apd
    rw [if_pos (by omega), Cm.out_ok KC.out]
    rfl
  rw [ea, ed] at HF
  subst hvb
  clear own bel1 bel2 ea ed hz HC
  go_wp2_with fail
  refine HF.out.mono ?_
  rintro E w3 ⟨vf, rfl, own3, bel3⟩
  obtain ⟨af, cf, hvf, _, _⟩ := own3.is.shape
  have O3 := hide (own3.rebase (base' := w.heap.size) bel02.size)
  have B3 := hide (bel02.trans (bel3.mono bel02.size))
  subst hvf
  clear own3 bel3 bel02 HF
  go_wp2
  go_ret
  exact ⟨_, rfl, O3.out, B3.out⟩

end Go.Proofs.Ytkpnkknolobioaa
