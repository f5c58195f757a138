/- The walk of ApartCommits. -/
import Derived.Test.YtimmohpnlieefaaYb
import Derived.Deep.RegionHeld3
namespace Go.Proofs.Ytimmohpnlieefaa
open Go.RowKit
set_option linter.unusedVariables false

theorem Try.info34 : (Try.prog.info? 34).map (fun i => (i.zero, i.size, i.bytes)) = some (some (.slice none 0 0), 1, 24) := by kernel_rfl

set_option maxRecDepth 100000 in
set_option maxHeartbeats 4000000 in
theorem apartC_keeps (m bl cl base : Nat) (vs : Nat → Value) (zs : Nat → List Cw) (w : World) (hm : m ≤ 1000) (hcl : m ≤ cl) (hbase : base ≤ w.heap.size) (h : ListsC m bl base w vs zs) (hm0 : 0 < m) :
    Calls Try.prog 20 #[.slice (some ⟨bl, 0, none⟩) m cl] w fun e w' => e = .returned (.bool true) ∧ Out (OwnsC m vs zs) w w' := by
  obtain ⟨i0, hi, hz0, hz1, hz2⟩ := info_parts Try.info34
  have hbl : bl < w.heap.size := World.block_lt_of_cell? _ _ (h.cell 0 hm0)
  have H := hide h
  have HLN : Hid (∀ k, k ≤ m → (opsK zs k).length ≤ 1000 * k) := hide (opsK_len zs m h.lens)
  clear h
  go_enter Try.func20, Try.ntmps20
  go_wp2_with (at_make; refine wpList_make_full _ rfl _ _ 44 rfl w.heap.size 34 i0 (.slice none 0 0) 1 Try.underlying44 hi hz0 hz1 _ _ _ _ m rfl rfl (by omega) (by omega) ?b2 ?b3 (Nat.le_refl _) ?_)
  case b2 => rw [hz2]; omega
  case b3 => unfold maxLen; omega
  intro w0 hown0 hgrow0
  have bel0 : Below w.heap.size w w0 := (Below.refl _ _).grown hgrow0 (Nat.le_refl _) (by simp)
  obtain ⟨xs0, hown1⟩ : ∃ xs0, w0.ownsRow w.heap.size 34 1 (.slice (some ⟨w.heap.size, 0, none⟩) m m) m xs0 := ⟨_, hown0⟩
  have I0 : Hid (L1 m w.heap.size w w0 zs 0 0 xs0 (.slice none 0 0)) := hide ⟨hown1, fun j hj => absurd hj (by omega), OwnG.nil _ _ _ _ _, bel0, (hown1.lt _ rfl).2⟩
  clear hown0 hgrow0 hown1 bel0
  go_wp2
  go_loopw [4, 5] (fun ov ii wr => ∃ (k : Nat) (xs : List Value), k ≤ m ∧ ii = .int .i64 k ∧ Hid (L1 m w.heap.size w wr zs k k xs ov)) (fun _ ii _ => m - (intOf ii).toNat)
  case atStart => exact ⟨0, xs0, by omega, rfl, I0⟩
  case round =>
    clear I0
    obtain ⟨k, xs, hk, rfl, HI⟩ := hrel
    by_cases hlt : k < m
    · have bel := HI.out.bel
      have g1 := (bel.cell (p := ⟨bl, k, none⟩) hbl).trans (H.out.cell k hlt)
      have hlt' : (k : Int) < m := by omega
      have hxl : xs.length = m := by have := HI.out.row.1; omega
      have IC := hide ((H.out.is hlt).below bel)
      go_wp2_with fail
      refine (copyCs_any _ _ _ IC.out (H.out.fit k hlt) (by have := H.out.lens k hlt; omega)).mono ?_
      rintro E w1 ⟨u, rs, rfl, ownu, heu, cru, belu⟩
      have ho1 := ownrow_below HI.out.row belu
      have g2 := (ho1.cellAt k (by omega)).trans (List.getElem?_eq_getElem (by rw [hxl]; exact hlt))
      have g3 := ho1.frozenAt k
      have CU : Hid (Cop wr.heap.size w1 u (zs k)) := hide ⟨rs, ownu, heu, cru⟩
      obtain ⟨au, cu, hu, _, _⟩ := ownu.row.shape
      subst hu
      obtain ⟨w2, hw2⟩ : ∃ x, w1.setCell ⟨w.heap.size, k, none⟩ (.slice au rs.length cu) = x := ⟨_, rfl⟩
      have I2 := hide (HI.out.put hlt CU.out belu hw2)
      have bel2 := I2.out.bel
      have g4 := (bel2.cell (p := ⟨bl, k, none⟩) hbl).trans (H.out.cell k hlt)
      have CO := hide (opsOf_any (vs k) (zs k) w2 ((H.out.is hlt).below bel2) (by have := H.out.lens k hlt; omega))
      clear ho1 ownu heu cru belu CU bel IC
      go_wp2_with fail
      refine CO.out.mono ?_
      rintro E w3 ⟨v3, rfl, own3, bel3⟩
      have I3 := hide (I2.out.below bel3)
      have hs3 := I3.out.lt
      have hln : (opsK zs k).length + ((zs k).map Cw.v).length ≤ 2000000 := by
        have := HLN.out k hk
        have := H.out.lens k hlt
        rw [List.length_map]
        omega
      have HONE : Hid (∀ u ∈ (zs k).map Cw.v, u.oneCell' = true) := hide fun u hu => by
        obtain ⟨c, hc, rfl⟩ := List.mem_map.1 hu
        exact (H.out.ops k hlt c hc).is.one
      have R3 := hide own3.row
      have ops3 := I3.out.ops
      clear own3 bel3 I2 bel2 CO g1 g2 g3 g4
      go_wp2_with (at_builtin; refine wpList_append_lls rfl (.tmp 26) (.tmp 31) rfl (w.heap.size + 1) _ _ rfl ops3 _ _ rfl R3.out HONE.out (by omega) (by omega) ?_)
      intro v4 w4 own4 bel4 gr4
      have I4 := hide (I3.out.app own4 bel4 gr4)
      clear own4 bel4 gr4 ops3 I3
      go_wp2
      go_roundw
      case rel => exact ⟨k + 1, _, by omega, by go_num, I4⟩
      case measure => simp [intOf]; omega
    · have hkm : k = m := by omega
      subst hkm
      have hge : ¬ (k : Int) < k := by omega
      have C0 := hide (l2_start H.out HI.out)
      generalize (fun j => xs.getD j (.slice none 0 0)) = us at C0
      clear HI
      obtain ⟨wa, hwa⟩ : ∃ x, x = wr := ⟨_, rfl⟩
      subst hwa
      go_wp2
      clear hlt hge hk
      go_loopw [6] (fun ii wr => ∃ (i : Nat), i ≤ k ∧ ii = .int .i64 i ∧ Hid (L2 k bl base w wr vs us zs u4 i)) (fun ii _ => k - (intOf ii).toNat)
      case atStart => exact ⟨0, by omega, rfl, C0⟩
      case round =>
        clear C0
        obtain ⟨i, hik, rfl, HC⟩ := hrel
        by_cases hlt : i < k
        · have g1 := HC.out.cell i hlt
          have g2 := HC.out.was i hlt
          have hlt' : (i : Int) < k := by omega
          have hsz := HC.out.lt
          have CS : Hid (∀ W, Below wr.heap.size wr W → Calls Try.prog 16 #[vs i, us i] W fun E w' => E = .returned (.bool true) ∧ Below W.heap.size W w') := hide fun W hb => by
            obtain ⟨rs, h1, h2, h3⟩ := HC.out.new i hlt
            have hl := H.out.lens i hlt
            have hl2 := cvs_len h2
            have hin : InC wr (zs i) := fun c hc => ⟨(HC.out.opl i hlt c hc).is, H.out.i64 i hlt c hc⟩
            have := sameCs_any (vs i) (us i) (zs i) rs W ⟨((HC.out.left i (Nat.le_refl _) hlt).row).below hb, hin.below hb⟩ ⟨h1.row.below hb, (h3.inC h2 hin).below hb⟩ (H.out.fit i hlt) (fit_same h2 (H.out.fit i hlt)) (by omega) (by omega)
            rw [h2, sameV_self] at this
            exact this
          go_wp2_with fail
          go_region_held3 (fun w' => w'.cell? ⟨bl, i, none⟩ = some (vs i) ∧ w'.cell? ⟨w.heap.size, i, none⟩ = some (us i)) (first | exact ⟨g1, g2⟩ | exact ⟨a1, a2⟩ | go_keep)
            (first
            | (go_at_call 16; refine (CS.out _ ((Below.refl _ _).drew)).mono ?_; rintro E w2 ⟨rfl, bel2'⟩; have bel2 : Below wr.heap.size wr w2 := ((Below.refl _ _).drew).trans bel2'; have C2 := hide (HC.out.below bel2); have a1 := C2.out.cell i hlt; have a2 := C2.out.was i hlt; clear bel2'))
          have CO := hide (overC_any (vs i) (zs i) base w2 (C2.out.left i (Nat.le_refl _) hlt))
          clear g1 g2 CS HC
          go_wp2_with fail
          refine CO.out.mono ?_
          rintro E w3 ⟨rfl, own3, gr3⟩
          have C3 := hide (C2.out.over H.out hlt own3 gr3)
          clear CO own3 gr3 C2 a1 a2 bel2
          go_wp2
          go_roundw
          case rel => exact ⟨i + 1, by omega, by go_num, C3⟩
          case measure => simp [intOf]; omega
        · have him : i = k := by omega
          subst him
          have hge : ¬ (i : Int) < i := by omega
          obtain ⟨wb, hwb⟩ : ∃ x, x = wr := ⟨_, rfl⟩
          subst hwb
          go_wp2
          clear hlt hge hik
          go_loopw [7, 8] (fun ii _ wx => ∃ (k n : Nat), k ≤ i ∧ ii = .int .i64 k ∧ wx = wb.drewN n) (fun ii _ _ => i - (intOf ii).toNat)
          case atStart => exact ⟨0, 0, by omega, rfl, rfl⟩
          case round =>
            obtain ⟨k, n, hk, rfl, rfl⟩ := hrel
            by_cases hlt : k < i
            · have g1 : (wb.drewN n).cell? ⟨bl, k, none⟩ = some (vs k) := HC.out.cell k hlt
              have g2 : (wb.drewN n).cell? ⟨w.heap.size, k, none⟩ = some (us k) := HC.out.was k hlt
              have hlt' : (k : Int) < i := by omega
              have o1 := HC.out.done k hlt hlt
              obtain ⟨rs, o2, hcv, _⟩ := HC.out.new k hlt
              have hl := H.out.lens k hlt
              have hl2 := cvs_len hcv
              by_cases hz : 0 < (zs k).length
              · obtain ⟨b1, f1, c1, hv1, hc1, hm1, _, he1⟩ := o1.row.full (by simpa using hz)
                obtain ⟨b2, f2, c2, hv2, hc2, hm2, _, he2⟩ := o2.row.full (by omega)
                rw [hv1, List.length_map] at g1
                rw [hv2, hl2] at g2
                rw [List.length_map] at hc1
                rw [hl2] at hc2
                have H1 := hide he1
                have H2 := hide he2
                have HCV := hide hcv
                clear he1 he2 hv1 hv2 o1 o2 hcv hl2
                generalize hL : (zs k).length = L at *
                have HLL := hide hL
                clear hL
                generalize hy : wb.drewN n = wy at *
                have HY := hide hy
                clear hy
                go_wp2
                go_loopw [8] (fun kk wx => ∃ (j n : Nat), j ≤ L ∧ kk = .int .i64 j ∧ wx = wy.drewN n) (fun kk _ => L - (intOf kk).toNat)
                case atStart => exact ⟨0, 0, by omega, rfl, rfl⟩
                case round =>
                  obtain ⟨j, n2, hj, rfl, rfl⟩ := hrel
                  by_cases hjl : j < L
                  · have hjl' : (j : Int) < L := by omega
                    obtain ⟨c, hc⟩ := at_of (l := zs k) (k := j) (by rw [HLL.out]; exact hjl)
                    obtain ⟨d, hd, hde, _, _⟩ := cvs_at HCV.out.symm hc
                    have g3 : (wy.drewN n2).cell? ⟨b1, f1 + j * 3, none⟩ = some (.int .i64 (bits BinOp.xor IntKind.i64 (if IntKind.i64.signed = true then -1 else 9223372036854775807) c.e)) := by
                      have := (H1.out j (ntC c) (by rw [List.getElem?_map, hc]; rfl)).1
                      rw [← HY.out]
                      exact this
                    have g4 : (wy.drewN n2).cell? ⟨b2, f2 + j * 3, none⟩ = some (.int .i64 c.e) := by
                      have := (H2.out j d hd).1
                      rw [← hde] at this
                      rw [← HY.out]
                      exact this
                    have k1 : (wy.drewN n2).cell? ⟨bl, k, none⟩ = some (.slice (some ⟨b1, f1, none⟩) L c1) := g1
                    have k2 : (wy.drewN n2).cell? ⟨w.heap.size, k, none⟩ = some (.slice (some ⟨b2, f2, none⟩) L c2) := g2
                    have hq : (bits BinOp.xor IntKind.i64 (if IntKind.i64.signed = true then -1 else 9223372036854775807) c.e != bits BinOp.xor IntKind.i64 (if IntKind.i64.signed = true then -1 else 9223372036854775807) c.e) = false := by simp
                    generalize hyy : wy.drewN n2 = wz at *
                    have HYY := hide hyy
                    clear hc hd hde hyy
                    generalize c.e = ee at *
                    go_wp2
                    go_quiet (fail)
                    go_wp2
                    go_roundw
                    case rel => exact ⟨j + 1, n2 + nq, by omega, by go_num, by rw [← HYY.out, World.drewN_drewN]⟩
                    case measure => simp [intOf]; omega
                  · have hge : ¬ (j : Int) < L := by omega
                    go_wp2
                    go_roundw
                    case rel => exact ⟨k + 1, n + n2, by omega, by go_num, by rw [← HY.out, World.drewN_drewN]⟩
                    case measure => simp [intOf]; omega
              · obtain ⟨a1, c1, hv1, hc1, hm1⟩ := o1.row.shape
                have hz0 : (zs k).length = 0 := by omega
                rw [hv1, List.length_map, hz0] at g1
                clear hv1 hc1 o1 o2 g2 hl hz0 hz hl2 hcv
                generalize hy : wb.drewN n = wy at *
                have HY := hide hy
                clear hy
                go_wp2
                refine wp_loop_rounds 1 ?_
                rw [rounds_succ]
                go_wp2
                go_roundw
                case rel => exact ⟨k + 1, n, by omega, by go_num, HY.out.symm⟩
                case measure => simp [intOf]; omega
            · have hge : ¬ (k : Int) < i := by omega
              rcases HC.out.ops.2 with ⟨hv, hn⟩ | ⟨bo, cap, cur, hv, hb1, hh, hcc, hcm, hs, ht⟩
              · subst hv
                go_wp2_with fail
                refine (apartO_none none 0 _).mono ?_
                rintro E w5 ⟨rfl, bel5⟩
                have O5 := HC.out.out
                clear HC
                go_wp2
                go_ret
                exact ⟨rfl, ((O5.drew n).trans (Out.of_below (F := fun _ => False) bel5) (fun g hg => hg.elim)).mono (fun g hg => .inl (.inl hg))⟩
              · obtain ⟨no, hno⟩ : ∃ x, (opsK zs i).length = x := ⟨_, rfl⟩
                rw [hno] at hv hcc
                subst hv
                have hle := HLN.out i (Nat.le_refl _)
                rw [hno] at hle
                by_cases hp : 0 < no
                · have LO := lists_ops H.out (HC.out.below (below_drewN (Below.refl _ _) n)) hno (by omega)
                  have AK := hide (apartO_keeps no bo cap base _ _ _ (by omega) hcc (by have := HC.out.lt; simp; omega) LO hp)
                  have HNO := hide hno
                  have O5 := HC.out.out
                  clear HC LO hno
                  go_wp2_with fail
                  refine AK.out.mono ?_
                  rintro E w5 ⟨rfl, out5⟩
                  have OF := hide ((O5.drew n).mono (G := OwnsC i vs zs) (fun g hg => .inl (.inl hg)))
                  have O6 := hide (OF.out.trans out5 (fun g hg => by
                    obtain ⟨j, hj, e⟩ := hg
                    obtain ⟨c, a, ha, hmm, _, e1, _⟩ := all_at (zs := zs) (m := i) (i := j) (by rw [HNO.out]; exact hj)
                    have e' : ((opsK zs i).getD j (.slice none 0 0)).ownBlock = some g := e
                    rw [e1] at e'
                    exact .inl (.inr ⟨a, ha, c, hmm, e'⟩)))
                  clear out5 AK O5
                  go_wp2
                  go_ret
                  exact ⟨rfl, O6.out⟩
                · have hp0 : no = 0 := by omega
                  subst hp0
                  go_wp2_with fail
                  refine (apartO_none _ _ _).mono ?_
                  rintro E w5 ⟨rfl, bel5⟩
                  have O5 := HC.out.out
                  clear HC
                  go_wp2
                  go_ret
                  exact ⟨rfl, ((O5.drew n).trans (Out.of_below (F := fun _ => False) bel5) (fun g hg => hg.elim)).mono (fun g hg => .inl (.inl hg))⟩

end Go.Proofs.Ytimmohpnlieefaa
