/- The contract of ApartStarts. -/
import Derived.Test.YtjaiemdefngbbaaA3
namespace Go.Proofs.Ytjaiemdefngbbaa
open Go.RowKit
set_option linter.unusedVariables false

theorem Try.info27 : (Try.prog.info? 27).map (fun i => (i.zero, i.size, i.bytes)) = some (some (.slice none 0 0), 1, 24) := by kernel_rfl

theorem rowS_grown {w w' : World} {v : Value} {l : List Sm.S} {row : Option Nat} (h : RowS w v l) (hg : w.grownBy w' row) (hne : v.ownBlock = none ∨ v.ownBlock ≠ row) : RowS w' v l := by
  rcases h with h | ⟨ad, cap, hv, h1, h2, hc⟩
  · exact .inl h
  · refine .inr ⟨ad, cap, hv, h1, h2, fun j u hj => hg.cell (hc j u hj) fun e => ?_⟩
    have eb : (ad.add j).block = ad.block := by unfold Addr.add; split <;> rfl
    have ob : v.ownBlock = some ad.block := by rw [hv]; rfl
    rw [eb] at e
    rcases hne with h | h
    · rw [ob] at h; simp at h
    · exact h (by rw [ob]; exact e)

/-- What the lists are, ahead of ApartStarts: v is written over. -/
structure ListsS (m bl : Nat) (w : World) (v : Value) (vs : Nat → Value) (zs : Nat → List Sm.S) : Prop where
  cell : ∀ i, i < m → w.cell? ⟨bl, i, none⟩ = some (vs i)
  row : ∀ i, i < m → RowS w (vs i) (zs i)
  apart : ∀ i, i < m → ∀ g, v.ownBlock = some g → (vs i).ownBlock ≠ some g
  table : v.ownBlock ≠ some bl
  lens : ∀ i, i < m → (zs i).length ≤ 2000000

/-- Behind the first loop: a copy of each. -/
structure CopS (m bl B : Nat) (w0 wr : World) (v : Value) (vs us : Nat → Value) (zs : Nat → List Sm.S) : Prop where
  cell : ∀ i, i < m → wr.cell? ⟨bl, i, none⟩ = some (vs i)
  was : ∀ i, i < m → wr.cell? ⟨B, i, none⟩ = some (us i)
  row : ∀ i, i < m → RowS wr (vs i) (zs i)
  new : ∀ i, i < m → RowS wr (us i) (zs i)
  apart : ∀ i, i < m → ∀ g, v.ownBlock = some g → (vs i).ownBlock ≠ some g
  other : ∀ i, i < m → ∀ g, v.ownBlock = some g → (us i).ownBlock ≠ some g
  table : v.ownBlock ≠ some bl
  desk : v.ownBlock ≠ some B

theorem CopS.grown {m bl B : Nat} {w0 wr w2 : World} {v : Value} {vs us : Nat → Value} {zs : Nat → List Sm.S} (h : CopS m bl B w0 wr v vs us zs) (hg : wr.grownBy w2 v.ownBlock) : CopS m bl B w0 w2 v vs us zs := by
  have far : ∀ u : Value, (∀ g, v.ownBlock = some g → u.ownBlock ≠ some g) → u.ownBlock = none ∨ u.ownBlock ≠ v.ownBlock := fun u hu => by
    cases hb : u.ownBlock with
    | none => exact .inl rfl
    | some b => exact .inr fun e => hu b e.symm hb
  exact ⟨fun i hi => hg.cell (h.cell i hi) (fun e => h.table e.symm), fun i hi => hg.cell (h.was i hi) (fun e => h.desk e.symm), fun i hi => rowS_grown (h.row i hi) hg (far _ (h.apart i hi)), fun i hi => rowS_grown (h.new i hi) hg (far _ (h.other i hi)), h.apart, h.other, h.table, h.desk⟩

theorem ownS_kept {base : Nat} {w w' : World} {v : Value} {l : List Sm.S} {row : Option Nat} (h : OwnS base w v l) (hg : w.grownBy w' row) (hne : v.ownBlock = none ∨ v.ownBlock ≠ row) : OwnS base w' v l := World.ownsRow.kept h hg hne

theorem copS_step {m B k : Nat} {w wr w1 : World} {xs : List Value} {u : Value} {zs : Nat → List Sm.S} (hk : k < m) (ho : w1.ownsRow B 27 1 (.slice (some ⟨B, 0, none⟩) m m) m xs)
    (hc : ∀ j, j < k → OwnS (B + 1) wr (xs.getD j (.slice none 0 0)) (zs j)) (bel : Below B w wr) (hs : B < wr.heap.size) (ownu : OwnS wr.heap.size w1 u (zs k)) (belu : Below wr.heap.size wr w1) :
    (w1.setCell ⟨B, k, none⟩ u).ownsRow B 27 1 (.slice (some ⟨B, 0, none⟩) m m) m (xs.set k u) ∧ (∀ j, j < k + 1 → OwnS (B + 1) (w1.setCell ⟨B, k, none⟩ u) ((xs.set k u).getD j (.slice none 0 0)) (zs j)) ∧
      Below B w (w1.setCell ⟨B, k, none⟩ u) ∧ B < (w1.setCell ⟨B, k, none⟩ u).heap.size := by
  have hst := ho.stored k u
  have hl : xs.length = m := by have := ho.1; omega
  refine ⟨hst.1, fun j hj => ?_, (bel.trans (belu.mono (by omega))).setCell (Nat.le_refl _) _, ?_⟩
  · by_cases hjk : j = k
    · subst hjk
      have e : (xs.set j u).getD j (.slice none 0 0) = u := by simp [hl, hk]
      rw [e]
      refine ownS_kept (ownS_rebase ownu (by omega)) hst.2 ?_
      cases hb : u.ownBlock with
      | none => exact .inl rfl
      | some b => exact .inr (by have := OwnG.lt ownu b hb; simp; omega)
    · have e : (xs.set k u).getD j (.slice none 0 0) = xs.getD j (.slice none 0 0) := by
        simp [List.getD, List.getElem?_set_ne (Ne.symm hjk)]
      rw [e]
      have h1 := hc j (by omega)
      refine ownS_kept (ownS_below h1 belu) hst.2 ?_
      cases hb : (xs.getD j (.slice none 0 0)).ownBlock with
      | none => exact .inl rfl
      | some b => exact .inr (by have := OwnG.lt h1 b hb; simp; omega)
  · have := hst.2.size
    have := belu.size
    omega

theorem copS_start {m bl B base : Nat} {w wr : World} {v : Value} {l : List Sm.S} {xs : List Value} {vs : Nat → Value} {zs : Nat → List Sm.S} (hB : B = w.heap.size) (hv : OwnS base w v l) (H : ListsS m bl w v vs zs) (ho : wr.ownsRow B 27 1 (.slice (some ⟨B, 0, none⟩) m m) m xs)
    (hc : ∀ j, j < m → OwnS (B + 1) wr (xs.getD j (.slice none 0 0)) (zs j)) (bel : Below B w wr) : CopS m bl B w wr v vs (fun j => xs.getD j (.slice none 0 0)) zs := by
  subst hB
  have hl : xs.length = m := by have := ho.1; omega
  exact ⟨fun i hi => (bel.cell (p := ⟨bl, i, none⟩) (World.block_lt_of_cell? _ _ (H.cell i hi))).trans (H.cell i hi),
    fun i hi => by rw [ho.cellAt i (by omega)]; simp [List.getD, List.getElem?_eq_getElem (show i < xs.length by omega)],
    fun i hi => (H.row i hi).below bel, fun i hi => (hc i hi).row, H.apart, fun i hi g hg e => by
      have h1 := OwnG.lt hv g hg
      have h2 := OwnG.lt (hc i hi) g e
      omega, H.table, fun e => by have := OwnG.lt hv _ e; omega⟩

/-- What stands in the spare room then. -/
def overS : List Value := [.int .i64 55, .int .i64 0]

theorem cells_two_new (w : World) (x y : Value) (t : TypeId) : ∀ j u, [x, y][j]? = some u → (w.alloc (.cells #[x, y] t)).cell? ((⟨w.heap.size, 0, none⟩ : Addr).add j) = some u := by
  intro j u hj
  rw [add_at]
  match j, hj with
  | 0, hj => simpa using hj
  | 1, hj => simpa using hj
  | n + 2, hj => simp at hj

theorem stc_set {l : List Sm.S} {k : Nat} {s : Sm.S} (h : l[k]? = some s) (z : Int) : (gcells stc l).set (k * 2) (.int .i64 z) = gcells stc (l.set k (z, s.2)) := by
  have := gcells_set stc_len l k s (z, s.2) h 0 (.int .i64 z) (by decide) rfl
  simpa using this

set_option maxRecDepth 100000 in
set_option maxHeartbeats 4000000 in
theorem apartS_keeps (m bl cl base : Nat) (v : Value) (l : List Sm.S) (vs : Nat → Value) (zs : Nat → List Sm.S) (w : World) (hm : m ≤ 1000) (hcl : m ≤ cl) (hbase : base ≤ w.heap.size) (hv : OwnS base w v l) (hlv : l.length ≤ 2000000) (h : ListsS m bl w v vs zs) (hm0 : 0 < m) :
    Calls Try.prog 26 #[v, .slice (some ⟨bl, 0, none⟩) m cl] w fun e w' => e = .returned (.bool true) ∧ Out (fun g => v.ownBlock = some g) w w' := by
  obtain ⟨i0, hi, hz0, hz1, hz2⟩ := info_parts Try.info27
  have hbl : bl < w.heap.size := World.block_lt_of_cell? _ _ (h.cell 0 hm0)
  have H := hide h
  have HV := hide hv
  clear h hv
  go_enter Try.func26, Try.ntmps26
  go_wp2_with (at_make; refine wpList_make_full _ rfl _ _ 51 rfl w.heap.size 27 i0 (.slice none 0 0) 1 Try.underlying51 hi hz0 hz1 _ _ _ _ m rfl rfl (by omega) (by omega) ?b2 ?b3 (Nat.le_refl _) ?_)
  case b2 => rw [hz2]; omega
  case b3 => unfold maxLen; omega
  intro w0 hown0 hgrow0
  have bel0 : Below w.heap.size w w0 := (Below.refl _ _).grown hgrow0 (Nat.le_refl _) (by simp)
  obtain ⟨xs0, hown1⟩ : ∃ xs0, w0.ownsRow w.heap.size 27 1 (.slice (some ⟨w.heap.size, 0, none⟩) m m) m xs0 := ⟨_, hown0⟩
  clear hown0 hgrow0
  go_wp2
  go_loopw [6] (fun ii wr => ∃ (k : Nat) (xs : List Value), k ≤ m ∧ ii = .int .i64 k ∧ wr.ownsRow w.heap.size 27 1 (.slice (some ⟨w.heap.size, 0, none⟩) m m) m xs ∧ (∀ j, j < k → OwnS (w.heap.size + 1) wr (xs.getD j (.slice none 0 0)) (zs j)) ∧ Below w.heap.size w wr ∧ w.heap.size < wr.heap.size) (fun ii _ => m - (intOf ii).toNat)
  case atStart => exact ⟨0, xs0, by omega, rfl, hown1, fun j hj => absurd hj (by omega), bel0, (hown1.lt _ rfl).2⟩
  case round =>
    clear hown1 bel0
    obtain ⟨k, xs, hk, rfl, ho, hcop, bel, hsz⟩ := hrel
    have HC := hide hcop
    clear hcop
    by_cases hlt : k < m
    · have g1 := (bel.cell (p := ⟨bl, k, none⟩) hbl).trans (H.out.cell k hlt)
      have hlt' : (k : Int) < m := by omega
      have hxl : xs.length = m := by have := ho.1; omega
      go_wp2_with (go_at_call 55; refine (copyS_any _ _ _ ((H.out.row k hlt).below bel) (by have := H.out.lens k hlt; omega)).mono ?_; rintro E w1 ⟨u, rfl, ownu, belu⟩; have ho1 := ownrow_below ho belu; have g2 := (ho1.cellAt k (by omega)).trans (List.getElem?_eq_getElem (by rw [hxl]; exact hlt)); have g3 := ho1.frozenAt k; obtain ⟨au, cu, rfl, _, _⟩ := ownu.row.shape)
      have R := copS_step hlt ho1 HC.out bel hsz ownu belu
      clear ho1 ownu belu g1 g2 g3 ho
      go_roundw
      case rel => exact ⟨k + 1, xs.set k _, by omega, by go_num, R.1, R.2.1, R.2.2.1, R.2.2.2⟩
      case measure => simp [intOf]; omega
    · have hlt' : ¬ (k : Int) < m := by omega
      have hkm : k = m := by omega
      have C0 := copS_start rfl HV.out H.out ho (by have := HC.out; rw [hkm] at this; exact this) bel
      generalize (fun j => xs.getD j (.slice none 0 0)) = us at C0
      have HL := hide H.out.lens
      have ownV := ownS_below HV.out bel
      clear ho HC hkm H HV
      rcases ownV.2 with ⟨hvn, hn0⟩ | ⟨g, cap, cur, hvv, hg1, hh, hc1, hcm, hs1, ht1⟩
      · subst hvn
        obtain ⟨wf, hwf⟩ : ∃ x, x = wr := ⟨_, rfl⟩
        rw [← hwf] at C0 bel ⊢
        have CF := hide C0
        have BF : Hid (Out (fun g => (Value.slice none 0 0).ownBlock = some g) w wf) := hide (Out.of_below bel)
        clear hwf C0 bel ownV hn0
        go_wp2
        refine wp_loop_rounds 1 ?_
        rw [rounds_succ]
        go_wp2
        refine wp_loop_rounds 1 ?_
        rw [rounds_succ]
        go_wp2
        go_loopw [9] (fun ii wx => ∃ (i n : Nat), i ≤ m ∧ ii = .int .i64 i ∧ wx = wf.drewN n) (fun ii _ => m - (intOf ii).toNat)
        case atStart => exact ⟨0, 0, by omega, rfl, rfl⟩
        case round =>
          obtain ⟨i, nn, hi2, rfl, rfl⟩ := hrel
          by_cases hlt4 : i < m
          · have g1 : (wf.drewN nn).cell? ⟨bl, i, none⟩ = some (vs i) := CF.out.cell i hlt4
            have g2 : (wf.drewN nn).cell? ⟨w.heap.size, i, none⟩ = some (us i) := CF.out.was i hlt4
            have r1 := rowS_drewN (CF.out.row i hlt4) nn
            have r2 := rowS_drewN (CF.out.new i hlt4) nn
            generalize hy : wf.drewN nn = wy at *
            have HY := hide hy
            clear hy
            have hl4 := HL.out i hlt4
            have hlt5 : (i : Int) < m := by omega
            go_wp2
            go_quiet ((go_at_call 49; refine Calls.quiet_of (sameS_yes _ _ (zs i) _ (rowS_drewN r1 _) (rowS_drewN r2 _) (by omega))))
            go_wp2
            go_roundw
            case rel => exact ⟨i + 1, nn + nq, by omega, by go_num, by rw [← HY.out, World.drewN_drewN]⟩
            case measure => simp [intOf]; omega
          · have hlt5 : ¬ (i : Int) < m := by omega
            go_wp2
            go_ret
            exact ⟨rfl, BF.out.drew _⟩
      · subst hvv
        obtain ⟨we, hwe⟩ : ∃ x, x = wr := ⟨_, rfl⟩
        rw [← hwe] at C0 bel ownV ⊢
        have CE := hide C0
        have BE : Hid (Out (fun b => (Value.slice (some ⟨g, 0, none⟩) l.length cap).ownBlock = some b) w we) := hide (Out.of_below bel)
        obtain ⟨j0, hj, hjz0, hjz1, hjz2⟩ := info_parts Try.info60
        unfold maxLen at hcm
        generalize hn : l.length = n at *
        have own0 : we.ownsRow base 60 2 (.slice (some ⟨g, 0, none⟩) n cap) n (gcells stc l) := by
          have := ownV
          unfold OwnS OwnG at this
          rw [hn] at this
          exact this
        have HNL := hide hn
        have HG1 := hide hg1
        clear hwe C0 bel ownV hg1 hh hs1 ht1 hn
        go_wp2
        clear hlt hlt' hk
        go_loopw [7] (fun ii wr => ∃ (k : Nat) (l2 : List Sm.S), k ≤ n ∧ ii = .int .i64 k ∧ l2.length = n ∧ wr.ownsRow base 60 2 (.slice (some ⟨g, 0, none⟩) n cap) n (gcells stc l2) ∧ we.grownBy wr (some g)) (fun ii _ => n - (intOf ii).toNat)
        case atStart => exact ⟨0, l, by omega, rfl, HNL.out, own0, World.grownBy.refl _ _⟩
        case round =>
          clear own0
          obtain ⟨k, l2, hk, rfl, hl2, ho, hg⟩ := hrel
          by_cases hlt : k < n
          · obtain ⟨s, hs⟩ := at_of (l := l2) (k := k) (by omega)
            have g1 : wr.cell? ⟨g, k * 2, none⟩ = some (.int .i64 s.1) := by
              rw [ho.cellAt (k * 2) (by omega)]
              have := gcells_at stc_len l2 k s hs 0 (.int .i64 s.1) rfl
              simpa using this
            have g2 := ho.frozenAt (k * 2)
            have hlt' : (k : Int) < n := by omega
            have HS : Hid (∀ Z : Int, (wr.setCell ⟨g, k * 2, none⟩ (.int .i64 Z)).ownsRow base 60 2 (.slice (some ⟨g, 0, none⟩) n cap) n (gcells stc (l2.set k (Z, s.2))) ∧ wr.grownBy (wr.setCell ⟨g, k * 2, none⟩ (.int .i64 Z)) (some g)) := hide fun Z => by
              have := ho.stored (k * 2) (.int .i64 Z)
              rw [stc_set hs] at this
              exact this
            have HG := hide hg
            have HL2 : Hid (∀ Z : Int, (l2.set k (Z, s.2)).length = n) := hide fun Z => by rw [List.length_set]; exact hl2
            clear ho hg hs hl2
            go_wp2
            go_roundw
            case rel => exact ⟨k + 1, _, by omega, by go_num, HL2.out _, (HS.out _).1, grown_trans HG.out (HS.out _).2⟩
            case measure => simp [intOf]; omega
          · have hlt' : ¬ (k : Int) < n := by omega
            obtain ⟨cs, hcs⟩ : ∃ cs, cs = gcells stc l2 := ⟨_, rfl⟩
            rw [← hcs] at ho
            obtain ⟨w5, hw5⟩ : ∃ x, x = wr := ⟨_, rfl⟩
            rw [← hw5] at ho hg ⊢
            clear hcs hw5 hl2
            go_wp2
            clear hlt hlt' hk
            go_loopw [0] (fun lv wr => ∃ (m2 : Nat) (ys : List Value), n ≤ m2 ∧ m2 ≤ cap ∧ lv = .slice (some ⟨g, 0, none⟩) m2 cap ∧ wr.ownsRow base 60 2 (.slice (some ⟨g, 0, none⟩) m2 cap) m2 (cs ++ ys) ∧ we.grownBy wr (some g)) (fun lv _ => cap - lenOf lv)
            case atStart => exact ⟨n, [], Nat.le_refl _, hc1, rfl, by simpa using ho, hg⟩
            case round =>
              clear ho hg
              obtain ⟨m2, ys, hm1, hm2, rfl, ho3, hg3⟩ := hrel
              by_cases hlt2 : m2 < cap
              · have hlt3 : (m2 : Int) < cap := by omega
                go_wp2_with (at_builtin; refine wpList_append_fits _ rfl (.tmp 49) (.tmp 51) 27 rfl base 60 j0 2 Try.underlying27 hj hjz1 g m2 cap _ rfl (ho3.alloc _) ⟨wr.heap.size, 0, none⟩ 1 1 overS rfl rfl (cells_two_new _ _ _ _) (by intro u hu; simp [overS] at hu; rcases hu with rfl | rfl <;> rfl) (by omega) ?_)
                intro w2 ho4 hg4
                have hg5 := grown_trans hg3 (grown_trans (World.grownBy_alloc _ _ _) hg4)
                clear ho3 hg3 hg4
                go_wp2
                go_roundw
                case rel => exact ⟨m2 + 1, ys ++ overS, by omega, by omega, rfl, by simpa using ho4, hg5⟩
                case measure => simp [lenOf]; omega
              · have hlt3 : ¬ (m2 : Int) < cap := by omega
                obtain ⟨wf, hwf⟩ : ∃ x, x = wr := ⟨_, rfl⟩
                rw [← hwf] at hg3 ⊢
                have CF := hide (CE.out.grown hg3)
                have BF := hide (BE.out.trans (Out.of_grown hg3 (fun b hb => by simpa [Value.ownBlock] using hb)) (fun g h => .inl h))
                clear hwf ho3 hg3 CE BE
                go_wp2
                clear hlt2 hlt3
                go_loopw [9] (fun ii wx => ∃ (i n : Nat), i ≤ m ∧ ii = .int .i64 i ∧ wx = wf.drewN n) (fun ii _ => m - (intOf ii).toNat)
                case atStart => exact ⟨0, 0, by omega, rfl, rfl⟩
                case round =>
                  obtain ⟨i, nn, hi2, rfl, rfl⟩ := hrel
                  by_cases hlt4 : i < m
                  · have g1 : (wf.drewN nn).cell? ⟨bl, i, none⟩ = some (vs i) := CF.out.cell i hlt4
                    have g2 : (wf.drewN nn).cell? ⟨w.heap.size, i, none⟩ = some (us i) := CF.out.was i hlt4
                    have r1 := rowS_drewN (CF.out.row i hlt4) nn
                    have r2 := rowS_drewN (CF.out.new i hlt4) nn
                    generalize hy : wf.drewN nn = wy at *
                    have HY := hide hy
                    clear hy
                    have hl4 := HL.out i hlt4
                    have hlt5 : (i : Int) < m := by omega
                    go_wp2
                    go_quiet ((go_at_call 49; refine Calls.quiet_of (sameS_yes _ _ (zs i) _ (rowS_drewN r1 _) (rowS_drewN r2 _) (by omega))))
                    go_wp2
                    go_roundw
                    case rel => exact ⟨i + 1, nn + nq, by omega, by go_num, by rw [← HY.out, World.drewN_drewN]⟩
                    case measure => simp [intOf]; omega
                  · have hlt5 : ¬ (i : Int) < m := by omega
                    go_wp2
                    go_ret
                    exact ⟨rfl, BF.out.drew _⟩

theorem apartS_yes (m bl cl base : Nat) (v : Value) (l : List Sm.S) (vs : Nat → Value) (zs : Nat → List Sm.S) (w : World) (hm : m ≤ 1000) (hcl : m ≤ cl) (hbase : base ≤ w.heap.size) (hv : OwnS base w v l) (hlv : l.length ≤ 2000000) (h : ListsS m bl w v vs zs) (hm0 : 0 < m) :
    Calls Try.prog 26 #[v, .slice (some ⟨bl, 0, none⟩) m cl] w fun e w' => e = .returned (.bool true) ∧ Below base w w' :=
  (apartS_keeps m bl cl base v l vs zs w hm hcl hbase hv hlv h hm0).mono (by
    rintro E w' ⟨h1, h2⟩
    exact ⟨h1, h2.below (fun g hg => (OwnG.lt hv g hg).1) hbase⟩)

end Go.Proofs.Ytjaiemdefngbbaa
