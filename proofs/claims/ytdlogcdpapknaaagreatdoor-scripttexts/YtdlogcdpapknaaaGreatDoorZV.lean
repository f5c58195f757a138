/- Texts of one layer, one behind the other. -/
import Derived.Test.YtdlogcdpapknaaaGreatDoorTzk
import Derived.Test.YtdlogcdpapknaaaGreatDoorTzi
import Derived.Test.YtdlogcdpapknaaaGreatDoorZB
/- The document's Line (layer 25). -/
namespace Go.Proofs.YtdlogcdpapknaaaGreatDoor
open Go.RowKit
set_option linter.unusedVariables false
set_option maxRecDepth 100000

theorem Tryz.enters38 : ∀ args w, (callFunc 38 args).run Tryz.prog w = .ok (.enter 38 args) w := enters_of Tryz.func38 (by kernel_rfl) rfl

theorem row_tail {w : World} {b off n cap : Nat} {ws : List ByteArray} (h : RowG fsc w (.slice (some ⟨b, off, none⟩) n cap) ws) (h1 : 1 ≤ n) : RowG fsc w (.slice (some ⟨b, off + 1, none⟩) (n - 1) (cap - 1)) (ws.drop 1) := by
  rcases h with ⟨h, _⟩ | ⟨ad, c, hv, hc1, hc2, hc⟩
  · cases h
  · cases hv
    refine .inr ⟨⟨b, off + 1, none⟩, cap - 1, by rw [List.length_drop], by rw [List.length_drop]; omega, by omega, fun j u hj => ?_⟩
    rw [gcells_fsc, List.getElem?_map] at hj
    obtain ⟨x, hx, hu⟩ := Option.map_eq_some_iff.1 hj
    rw [List.getElem?_drop] at hx
    have := hc (1 + j) u (by rw [gcells_fsc, List.getElem?_map, hx, ← hu]; rfl)
    rw [add_at] at this ⊢
    rw [show off + 1 + j = off + (1 + j) by omega]
    exact this

theorem row_tail1 {w : World} {b off n cap : Nat} {ws : List ByteArray} (h : RowG fsc w (.slice (some ⟨b, off, none⟩) n cap) ws) (h1 : 1 ≤ n) (hc : cap = 1) : RowG fsc w (.slice (some ⟨b, off, none⟩) (n - 1) 0) (ws.drop 1) := by
  rcases h with ⟨h, _⟩ | ⟨ad, c, hv, hc1, hc2, _⟩
  · cases h
  · cases hv
    subst hc
    have h0 : ws.drop 1 = [] := List.drop_eq_nil_of_le hc1
    rw [h0, show ws.length - 1 = 0 by omega]
    exact .inr ⟨⟨b, off, none⟩, 0, rfl, by simp, by simp, fun j u hj => by simp [gcells] at hj⟩

theorem str_eq {a b : ByteArray} (h : (a.toList == b.toList) = true) : a = b := by
  rw [Lib.toList_data, Lib.toList_data] at h
  exact Sct.ba_ext (by simpa using h)

/-- The kinds so far have no act of these words. -/
def NoK (h : List UInt8) (t : List (List UInt8)) (k : Nat) : Prop := ∀ j : Nat, 1 ≤ j → j < k → Sct.nm j ≠ h ∨ NoA j t
theorem nok_all {h : List UInt8} {t : List (List UInt8)} (hn : NoK h t 13) : ∀ b, Sct.Ok b → Sct.txt b ≠ h :: t := fun b hb he => by
  have hk := hb.k
  obtain ⟨e1, e2⟩ := List.cons.inj he
  obtain ⟨j, hj⟩ : ∃ j : Nat, b.k = j := ⟨b.k.toNat, by omega⟩
  rcases hn j (by omega) (by omega) with h1 | h1
  · exact h1 (by rw [← hj]; exact e1)
  · exact h1 b hb hj e2

set_option maxHeartbeats 3000000 in
theorem lineR_any (s : ByteArray) (w : World) (hs : s.size ≤ 65536) : Calls Tryz.prog 14 #[.string s] w (LnE s.data.toList w) := by
  obtain ⟨W, hW, szW, belW, rb⟩ := blk_step w #[.int .i64 0, .int .i64 0, .int .i64 0, .int .i64 0, .string ⟨#[]⟩, .slice none 0 0] 24
  have HLS : Hid (s.data.toList.length ≤ 65536) := hide (by rw [← Lib.size_eq]; exact hs)
  have hl' : ¬ (65536 : Int) < s.size := by omega
  have RB := hide rb
  have BL := hide belW
  clear rb belW
  go_enter Tryz.func14, Tryz.ntmps14
  go_wp2
  go_loopw [5] (fun iv wr => ∃ i : Nat, i ≤ s.size ∧ iv = .int .i64 i ∧ Hid ((10 : UInt8) ∉ s.data.toList.take i) ∧ wr = W) (fun iv _ => s.size - (intOf iv).toNat)
  case atStart => exact ⟨0, by omega, rfl, hide (by simp), rfl⟩
  case round =>
    obtain ⟨i, hi, rfl, HT, rfl⟩ := hrel
    by_cases hlt : i < s.size
    · have hlt' : (i : Int) < s.size := by omega
      obtain ⟨d, hd⟩ : ∃ d : UInt8, s[i]'hlt = d := ⟨_, rfl⟩
      by_cases hdc : d = 10
      · subst hdc
        have hten := hide (show (10 : UInt8) ∈ s.data.toList from List.mem_of_getElem? (str_at hlt hd))
        clear HT
        obtain ⟨V, hV, gV, rbV, ⟨o0, o1, o2, o3, o4, o5⟩, fr, ⟨y0, y1, y2, y3, y4, y5⟩⟩ := putz RB.out (.int .i64 0) (.int .i64 0) (.int .i64 0) (.int .i64 0) (.string ⟨#[]⟩) (.slice none 0 0)
        have f0 := fr 0; have f1 := fr 1; have f2 := fr 2; have f3 := fr 3; have f4 := fr 4; have f5 := fr 5
        have FF := hide (show LnE s.data.toList w (.returned (.tuple #[.agg #[.int .i64 0, .int .i64 0, .int .i64 0, .int .i64 0, .string ⟨#[]⟩, .slice none 0 0], .bool false, .int .i64 350])) V from ⟨Sct.no, .slice none 0 0, false, 350, rfl, OwnO.nil _ _ _, .inr (.inr (.inr ⟨HLS.out, .inl hten.out, rfl, rfl, rfl⟩)), below_put BL.out gV (Nat.le_refl _) BL.out.size⟩)
        clear rbV gV fr
        go_wp2
        refine bodyPost_ret (v := .tuple #[.agg #[.int .i64 0, .int .i64 0, .int .i64 0, .int .i64 0, .string ⟨#[]⟩, .slice none 0 0], .bool false, .int .i64 350]) (by simp [results, Tryz.results14, go_sem, y0, y1, y2, y3, y4, y5]) rfl ?_
        exact FF.out
      · have hq : ((d.toNat : Int) == 10) = false := by
          have : d.toNat ≠ 10 := fun e => hdc (UInt8.toNat.inj e)
          simp
          omega
        have HT2 : Hid ((10 : UInt8) ∉ s.data.toList.take (i + 1)) := hide fun e => by
          rw [str_take hlt hd] at e
          rcases List.mem_append.1 e with e | e
          · exact HT.out e
          · exact hdc (List.mem_singleton.1 e).symm
        clear HT
        go_wp2
        go_roundw
        case rel => exact ⟨i + 1, by omega, by go_num, HT2, by trivial⟩
        case measure => simp [intOf]; omega
    · have hlt' : ¬ (i : Int) < s.size := by omega
      have TEN : Hid ((10 : UInt8) ∉ s.data.toList) := hide (by
        have h := HT.out
        rw [List.take_of_length_le (by rw [← Lib.size_eq s]; omega)] at h
        exact h)
      clear HT
      have WD := hide (wordsR_any s wr (by omega))
      go_wp2_with fail
      refine WD.out.mono ?_
      rintro E w1 ⟨vw, ws, rfl, ownw, hwl, b1⟩
      have bz := BL.out.size
      have RB1 := hide ((b1.block w.heap.size (blk_lt RB.out)).trans RB.out)
      have BL1 := hide (BL.out.trans (b1.mono bz))
      clear RB BL
      have RB := RB1
      have BL := BL1
      clear RB1 BL1
      have HWL := hide hwl
      have SZ : Hid (∀ x ∈ ws, x.size ≤ 65536) := hide fun x hx => by
        have h1 := (wdsA_len s.data.toList []).2 x.data.toList (by show _ ∈ Sct.wds _; rw [← hwl]; exact List.mem_map_of_mem hx)
        have h2 := HLS.out
        rw [Lib.size_eq]
        simp only [List.length_nil] at h1
        omega
      have LEN : Hid (ws.length ≤ 65536) := hide (by
        have h1 := (wdsA_len s.data.toList []).1
        have h2 : (wl ws).length ≤ ([] : List UInt8).length + s.data.toList.length := by rw [hwl]; exact h1
        rw [wl_len] at h2
        have h3 := HLS.out
        simp only [List.length_nil] at h2
        omega)
      have ROW := hide ownw.row
      obtain ⟨oa, oc, rfl, _, _⟩ := ownw.row.shape
      clear b1 WD hwl ownw
      cases ws with
      | nil =>
        have hz0 : (([] : List ByteArray).length : Int) = 0 := rfl
        have REM : Hid (Sct.Rem s.data.toList) := hide (.inl HWL.out.symm)
        clear ROW
        obtain ⟨V, hV, gV, rbV, ⟨o0, o1, o2, o3, o4, o5⟩, fr, ⟨y0, y1, y2, y3, y4, y5⟩⟩ := putz RB.out (.int .i64 0) (.int .i64 0) (.int .i64 0) (.int .i64 0) (.string ⟨#[]⟩) (.slice none 0 0)
        have f0 := fr 0; have f1 := fr 1; have f2 := fr 2; have f3 := fr 3; have f4 := fr 4; have f5 := fr 5
        have FF := hide (show LnE s.data.toList w (.returned (.tuple #[.agg #[.int .i64 0, .int .i64 0, .int .i64 0, .int .i64 0, .string ⟨#[]⟩, .slice none 0 0], .bool false, .int .i64 0])) V from ⟨Sct.no, .slice none 0 0, false, 0, rfl, OwnO.nil _ _ _, .inr (.inl ⟨HLS.out, TEN.out, REM.out, rfl, rfl, rfl⟩), below_put BL.out gV (Nat.le_refl _) BL.out.size⟩)
        clear rbV gV fr
        go_wp2
        refine bodyPost_ret (v := .tuple #[.agg #[.int .i64 0, .int .i64 0, .int .i64 0, .int .i64 0, .string ⟨#[]⟩, .slice none 0 0], .bool false, .int .i64 0]) (by simp [results, Tryz.results14, go_sem, y0, y1, y2, y3, y4, y5]) rfl ?_
        exact FF.out
      | cons hd r =>
        have hdz : 0 < hd.size := by
          have h1 := (Sct.wds_ne (l := s.data.toList) hd.data.toList (by rw [← HWL.out]; exact List.mem_map_of_mem (List.mem_cons_self ..))).1
          have h2 := List.length_pos_iff.2 h1
          rw [← Lib.size_eq] at h2
          exact h2
        obtain ⟨b, off, cap, hvv, hc0, hc1, hc2, hc⟩ := ROW.out.full fsc_len (by decide) (by simp)
        cases hvv
        have k0 : w1.cell? ⟨b, off, none⟩ = some (.string hd) := by simpa using hc 0 hd rfl 0 (.string hd) rfl
        obtain ⟨n, hn⟩ : ∃ n, (hd :: r).length = n := ⟨_, rfl⟩
        have hnp : 1 ≤ n := by rw [← hn]; simp
        have HN := hide hn
        rw [hn] at ROW hc0 ⊢
        have hq0 : ((n : Int) == 0) = false := by simp; omega
        have hn1 : (1 : Int) ≤ n := by omega
        have hn0 : 0 < n := hnp
        obtain ⟨c, hcc⟩ : ∃ c : UInt8, hd[0]'hdz = c := ⟨_, rfl⟩
        have HD : Hid (hd.data.toList.head? = some c) := hide (by rw [List.head?_eq_getElem?]; exact str_at hdz hcc)
        clear hc hn
        by_cases h35 : c = 35
        · subst h35
          have REM : Hid (Sct.Rem s.data.toList) := hide (.inr ⟨hd.data.toList, wl r, HWL.out.symm, HD.out⟩)
          obtain ⟨V, hV, gV, rbV, ⟨o0, o1, o2, o3, o4, o5⟩, fr, ⟨y0, y1, y2, y3, y4, y5⟩⟩ := putz RB.out (.int .i64 0) (.int .i64 0) (.int .i64 0) (.int .i64 0) (.string ⟨#[]⟩) (.slice none 0 0)
          have f0 := fr 0; have f1 := fr 1; have f2 := fr 2; have f3 := fr 3; have f4 := fr 4; have f5 := fr 5
          have FF := hide (show LnE s.data.toList w (.returned (.tuple #[.agg #[.int .i64 0, .int .i64 0, .int .i64 0, .int .i64 0, .string ⟨#[]⟩, .slice none 0 0], .bool false, .int .i64 0])) V from ⟨Sct.no, .slice none 0 0, false, 0, rfl, OwnO.nil _ _ _, .inr (.inl ⟨HLS.out, TEN.out, REM.out, rfl, rfl, rfl⟩), below_put BL.out gV (Nat.le_refl _) BL.out.size⟩)
          clear rbV gV fr
          go_wp2
          refine bodyPost_ret (v := .tuple #[.agg #[.int .i64 0, .int .i64 0, .int .i64 0, .int .i64 0, .string ⟨#[]⟩, .slice none 0 0], .bool false, .int .i64 0]) (by simp [results, Tryz.results14, go_sem, y0, y1, y2, y3, y4, y5]) rfl ?_
          exact FF.out
        · have hq : ((c.toNat : Int) == 35) = false := by
            have : c.toNat ≠ 35 := fun e => h35 (UInt8.toNat.inj e)
            simp
            omega
          have NRM : Hid (¬ Sct.Rem s.data.toList) := hide fun hR => by
            rcases hR with e | ⟨x, q, e, hh⟩
            · rw [← HWL.out] at e
              simp [wl] at e
            · rw [← HWL.out] at e
              simp only [wl, List.map_cons, List.cons.injEq] at e
              rw [← e.1, HD.out] at hh
              exact h35 (Option.some.inj hh)
          have hbl : b < w1.heap.size := World.block_lt_of_cell? _ _ k0
          go_wp2
          go_loopw [7] (fun kv wr => ∃ k : Nat, 1 ≤ k ∧ k ≤ 13 ∧ kv = .int .i64 k ∧ Hid (NoK hd.data.toList (wl r) k) ∧ Below w1.heap.size w1 wr) (fun kv _ => 13 - (intOf kv).toNat)
          case atStart => exact ⟨1, by omega, by omega, rfl, hide fun j h1 h2 => by omega, Below.refl _ _⟩
          case round =>
            obtain ⟨k, hk1, hk13, rfl, NK, bel⟩ := hrel
            have hbs := bel.size
            have RBr := hide ((bel.block w.heap.size (blk_lt RB.out)).trans RB.out)
            have BLr := hide (BL.out.trans (bel.mono BL.out.size))
            by_cases hk12 : k ≤ 12
            · have hk12' : (k : Int) ≤ 12 := by omega
              have NM : Hid (Calls Tryz.prog 38 #[.int .i64 k] wr.drew fun E w' => ∃ v, E = .returned v ∧ v = .string (nmA k) ∧ Below wr.drew.heap.size wr.drew w') := hide ((nameR_any k wr.drew (by omega)).mono fun E w' h => ⟨_, h.1, rfl, h.2⟩)
              have cx : wr.cell? ⟨b, off, none⟩ = some (.string hd) := (bel.cell hbl).trans k0
              go_wp2_with fail
              go_cut [47] from 42 to 47 (fun v47 wx => v47 = .bool ((nmA k).toList == hd.toList) ∧ Hid (Below wr.heap.size wr wx))
              case first =>
                go_region_law (refine call_sx rfl 38 #[.tmp 42] #[3] rfl Tryz.enters38 #[.int .i64 k] (by first | rfl | (simp [Act.eval]; done) | (simp [Act.eval, Act.put]; done) | (simp [Act.eval, Act.put]; rfl)) NM.out ?_; rintro _ wn ⟨rfl, bn⟩; have REL := hide ((Below.refl wr.heap.size wr).drew.trans bn); clear bn; have cn : wn.cell? ⟨b, off, none⟩ = some (.string hd) := (REL.out.cell (Nat.lt_of_lt_of_le hbl hbs)).trans cx)
                all_goals
                  go_wp2
                  go_meet
                  case rel => exact ⟨rfl, REL⟩
              case rest =>
                obtain ⟨rfl, hb⟩ := hcut
                obtain ⟨wz, rfl⟩ : ∃ z, z = wc := ⟨_, rfl⟩
                have bel2 := bel.trans (hb.out.mono hbs)
                have RBz := hide ((hb.out.block w.heap.size (blk_lt RBr.out)).trans RBr.out)
                have BLz := hide (BLr.out.trans (hb.out.mono BLr.out.size))
                have hzs := hb.out.size
                cases hq2 : ((nmA k).toList == hd.toList)
                · have NK2 : Hid (NoK hd.data.toList (wl r) (k + 1)) := hide fun j h1 h2 => by
                    rcases Nat.lt_or_ge j k with h3 | h3
                    · exact NK.out j h1 h3
                    · obtain rfl : j = k := by omega
                      refine .inl fun e => ?_
                      have h4 : nmA j = hd := Sct.ba_ext (by rw [nmA_l, if_neg (by omega)]; exact e)
                      rw [h4] at hq2
                      simp at hq2
                  clear NK cx RBr BLr RBz BLz bel NM
                  go_wp2
                  go_roundw
                  case rel => exact ⟨k + 1, by omega, by omega, by go_num, NK2, bel2⟩
                  case measure => first | (simp [intOf]; done) | (simp [intOf]; omega)
                · have hnm : hd.data.toList = Sct.nm k := by
                    rw [← str_eq hq2, nmA_l, if_neg (by omega)]
                  have HNM := hide hnm
                  have AC := hide (fun v (hv : RowG fsc wz v r) => actR_any k v r wz ⟨by omega, by omega⟩ hv (fun x hx => SZ.out x (List.mem_cons_of_mem _ hx)) (by have := LEN.out; simp at this; omega))
                  have RT := hide (row_tail (ROW.out.below bel2) hnp)
                  have RT1 := hide (fun h => row_tail1 (ROW.out.below bel2) hnp h)
                  rw [show (hd :: r).drop 1 = r from rfl] at RT RT1
                  have B2 := hide bel2
                  clear bel cx RBr BLr NM hnm bel2
                  go_wp2_with fail
                  · rename_i h
                    have R1 := RT1.out h
                    have HO := hide h
                    clear h RT RT1
                    refine (AC.out _ R1).mono ?_
                    clear R1
                    rintro E w5 ⟨a, v, ok, rfl, own, res, b5⟩
                    obtain ⟨oo, ocp, rfl, _, _⟩ := own.is.shape
                    unfold acv acc
                    have RB5 := hide ((b5.block w.heap.size (blk_lt RBz.out)).trans RBz.out)
                    have BL5 := hide (BLz.out.trans (b5.mono BLz.out.size))
                    have s5 := b5.size
                    obtain ⟨X, hX, sX, bX, abX⟩ := blk_step w5 #[.int .i64 a.k, .int .i64 a.u, .int .i64 a.n, .int .i64 a.t, .string a.key, .slice oo a.ops.length ocp] 24
                    have zq := sx_of abX
                    obtain ⟨q0, q1, q2, q3, q4, q5⟩ := zq
                    have p0 := blk_froz abX 0; have p1 := blk_froz abX 1; have p2 := blk_froz abX 2; have p3 := blk_froz abX 3; have p4 := blk_froz abX 4; have p5 := blk_froz abX 5
                    have ownX := hide (own.below bX)
                    have RBX := hide ((bX.block w.heap.size (blk_lt RB5.out)).trans RB5.out)
                    have BLX := hide (BL5.out.trans (bX.mono BL5.out.size))
                    have BB := hide ((B2.out.trans (b5.mono B2.out.size)).trans (bX.mono (by have := B2.out.size; omega)))
                    have OLT := hide (show w.heap.size < wz.heap.size from blk_lt RBz.out)
                    clear RB BL
                    have RB := RBX
                    have BL := BLX
                    clear RBX BLX RB5 BL5 RBz BLz bX b5 abX own AC
                    rcases res with ⟨rfl, hka, hok, htl⟩ | ⟨rfl, hno⟩
                    · have TXT : Hid (Sct.txt a = Sct.wds s.data.toList) := hide (by
                        rw [← HWL.out]
                        show Sct.nm a.k :: Sct.tail a = hd.data.toList :: wl r
                        rw [hka, htl, HNM.out])
                      have HOK := hide hok
                      clear htl hok hka
                      obtain ⟨V, hV, gV, rbV, ⟨o0, o1, o2, o3, o4, o5⟩, fr, ⟨y0, y1, y2, y3, y4, y5⟩⟩ := putz RB.out (.int .i64 a.k) (.int .i64 a.u) (.int .i64 a.n) (.int .i64 a.t) (.string a.key) (.slice oo a.ops.length ocp)
                      have f0 := fr 0; have f1 := fr 1; have f2 := fr 2; have f3 := fr 3; have f4 := fr 4; have f5 := fr 5
                      have FF := hide (show LnE s.data.toList w (.returned (.tuple #[.agg #[.int .i64 a.k, .int .i64 a.u, .int .i64 a.n, .int .i64 a.t, .string a.key, .slice oo a.ops.length ocp], .bool true, .int .i64 0])) V from ⟨a, .slice oo a.ops.length ocp, true, 0, rfl, ((own_kg ownX.out gV OLT.out).rebase (base' := w.heap.size) (Nat.le_of_lt OLT.out)), .inr (.inr (.inl ⟨HLS.out, TEN.out, NRM.out, HOK.out, TXT.out, rfl, rfl⟩)), below_put BL.out gV (Nat.le_refl _) BL.out.size⟩)
                      clear rbV gV fr
                      go_wp2
                      refine bodyPost_ret (v := .tuple #[.agg #[.int .i64 a.k, .int .i64 a.u, .int .i64 a.n, .int .i64 a.t, .string a.key, .slice oo a.ops.length ocp], .bool true, .int .i64 0]) (by simp [results, Tryz.results14, go_sem, y0, y1, y2, y3, y4, y5]) rfl ?_
                      exact FF.out
                    · have NK2 : Hid (NoK hd.data.toList (wl r) (k + 1)) := hide fun j h1 h2 => by
                        rcases Nat.lt_or_ge j k with h3 | h3
                        · exact NK.out j h1 h3
                        · obtain rfl : j = k := by omega
                          exact .inr hno
                      clear NK
                      go_wp2
                      go_roundw
                      case rel =>
                        refine ⟨_, _, _, _, _, _, _, _, _, _, _, _, _, _, _, _, _, _, _, _, _, _, _, _, ?r, (by rw [HO.out])⟩
                        exact ⟨k + 1, by omega, by omega, by go_num, NK2, BB.out⟩
                      case measure => first | (simp [intOf]; done) | (simp [intOf]; omega)
                  · refine (AC.out _ RT.out).mono ?_
                    clear RT RT1
                    rintro E w5 ⟨a, v, ok, rfl, own, res, b5⟩
                    obtain ⟨oo, ocp, rfl, _, _⟩ := own.is.shape
                    unfold acv acc
                    have RB5 := hide ((b5.block w.heap.size (blk_lt RBz.out)).trans RBz.out)
                    have BL5 := hide (BLz.out.trans (b5.mono BLz.out.size))
                    have s5 := b5.size
                    obtain ⟨X, hX, sX, bX, abX⟩ := blk_step w5 #[.int .i64 a.k, .int .i64 a.u, .int .i64 a.n, .int .i64 a.t, .string a.key, .slice oo a.ops.length ocp] 24
                    have zq := sx_of abX
                    obtain ⟨q0, q1, q2, q3, q4, q5⟩ := zq
                    have p0 := blk_froz abX 0; have p1 := blk_froz abX 1; have p2 := blk_froz abX 2; have p3 := blk_froz abX 3; have p4 := blk_froz abX 4; have p5 := blk_froz abX 5
                    have ownX := hide (own.below bX)
                    have RBX := hide ((bX.block w.heap.size (blk_lt RB5.out)).trans RB5.out)
                    have BLX := hide (BL5.out.trans (bX.mono BL5.out.size))
                    have BB := hide ((B2.out.trans (b5.mono B2.out.size)).trans (bX.mono (by have := B2.out.size; omega)))
                    have OLT := hide (show w.heap.size < wz.heap.size from blk_lt RBz.out)
                    clear RB BL
                    have RB := RBX
                    have BL := BLX
                    clear RBX BLX RB5 BL5 RBz BLz bX b5 abX own AC
                    rcases res with ⟨rfl, hka, hok, htl⟩ | ⟨rfl, hno⟩
                    · have TXT : Hid (Sct.txt a = Sct.wds s.data.toList) := hide (by
                        rw [← HWL.out]
                        show Sct.nm a.k :: Sct.tail a = hd.data.toList :: wl r
                        rw [hka, htl, HNM.out])
                      have HOK := hide hok
                      clear htl hok hka
                      obtain ⟨V, hV, gV, rbV, ⟨o0, o1, o2, o3, o4, o5⟩, fr, ⟨y0, y1, y2, y3, y4, y5⟩⟩ := putz RB.out (.int .i64 a.k) (.int .i64 a.u) (.int .i64 a.n) (.int .i64 a.t) (.string a.key) (.slice oo a.ops.length ocp)
                      have f0 := fr 0; have f1 := fr 1; have f2 := fr 2; have f3 := fr 3; have f4 := fr 4; have f5 := fr 5
                      have FF := hide (show LnE s.data.toList w (.returned (.tuple #[.agg #[.int .i64 a.k, .int .i64 a.u, .int .i64 a.n, .int .i64 a.t, .string a.key, .slice oo a.ops.length ocp], .bool true, .int .i64 0])) V from ⟨a, .slice oo a.ops.length ocp, true, 0, rfl, ((own_kg ownX.out gV OLT.out).rebase (base' := w.heap.size) (Nat.le_of_lt OLT.out)), .inr (.inr (.inl ⟨HLS.out, TEN.out, NRM.out, HOK.out, TXT.out, rfl, rfl⟩)), below_put BL.out gV (Nat.le_refl _) BL.out.size⟩)
                      clear rbV gV fr
                      go_wp2
                      refine bodyPost_ret (v := .tuple #[.agg #[.int .i64 a.k, .int .i64 a.u, .int .i64 a.n, .int .i64 a.t, .string a.key, .slice oo a.ops.length ocp], .bool true, .int .i64 0]) (by simp [results, Tryz.results14, go_sem, y0, y1, y2, y3, y4, y5]) rfl ?_
                      exact FF.out
                    · have NK2 : Hid (NoK hd.data.toList (wl r) (k + 1)) := hide fun j h1 h2 => by
                        rcases Nat.lt_or_ge j k with h3 | h3
                        · exact NK.out j h1 h3
                        · obtain rfl : j = k := by omega
                          exact .inr hno
                      clear NK
                      go_wp2
                      go_roundw
                      case rel => exact ⟨k + 1, by omega, by omega, by go_num, NK2, BB.out⟩
                      case measure => first | (simp [intOf]; done) | (simp [intOf]; omega)
            · have hk12' : ¬ (k : Int) ≤ 12 := by omega
              obtain rfl : k = 13 := by omega
              have NO : Hid (∀ b, Sct.Ok b → Sct.txt b ≠ Sct.wds s.data.toList) := hide (by rw [← HWL.out]; exact nok_all NK.out)
              clear NK RB BL bel
              have RB := RBr
              have BL := BLr
              clear RBr BLr
              obtain ⟨V, hV, gV, rbV, ⟨o0, o1, o2, o3, o4, o5⟩, fr, ⟨y0, y1, y2, y3, y4, y5⟩⟩ := putz RB.out (.int .i64 0) (.int .i64 0) (.int .i64 0) (.int .i64 0) (.string ⟨#[]⟩) (.slice none 0 0)
              have f0 := fr 0; have f1 := fr 1; have f2 := fr 2; have f3 := fr 3; have f4 := fr 4; have f5 := fr 5
              have FF := hide (show LnE s.data.toList w (.returned (.tuple #[.agg #[.int .i64 0, .int .i64 0, .int .i64 0, .int .i64 0, .string ⟨#[]⟩, .slice none 0 0], .bool false, .int .i64 350])) V from ⟨Sct.no, .slice none 0 0, false, 350, rfl, OwnO.nil _ _ _, .inr (.inr (.inr ⟨HLS.out, .inr ⟨NRM.out, NO.out⟩, rfl, rfl, rfl⟩)), below_put BL.out gV (Nat.le_refl _) BL.out.size⟩)
              clear rbV gV fr
              go_wp2
              refine bodyPost_ret (v := .tuple #[.agg #[.int .i64 0, .int .i64 0, .int .i64 0, .int .i64 0, .string ⟨#[]⟩, .slice none 0 0], .bool false, .int .i64 350]) (by simp [results, Tryz.results14, go_sem, y0, y1, y2, y3, y4, y5]) rfl ?_
              exact FF.out

end Go.Proofs.YtdlogcdpapknaaaGreatDoor

/- What Print comes to is one (layer 25). No program. -/
namespace Go.Proofs.YtdlogcdpapknaaaGreatDoor
set_option linter.unusedVariables false

theorem prr_at {l : List Sct.Av} {i j : Nat} {a : Sct.Av} (h : ∀ x ∈ l.take i, Sct.Ok x) (ha : l[j]? = some a) (hn : ¬ Sct.Ok a) : i ≤ j := by
  rcases Nat.lt_or_ge j i with hj | hj
  · exfalso
    refine hn (h a (List.mem_of_getElem? (i := j) ?_))
    rw [List.getElem?_take_of_lt hj]
    exact ha
  · exact hj

theorem prr_one {l : List Sct.Av} {s t : List UInt8} {p q e f : Int} (h : Sct.PrRes l s p e) (k : Sct.PrRes l t q f) : s = t ∧ p = q ∧ e = f := by
  rcases h with ⟨h1, rfl, rfl, rfl⟩ | ⟨h1, rfl, rfl, i, rfl, h2, a, h3, h4⟩ | ⟨h1, h2, h3, rfl, rfl, rfl⟩ | ⟨h1, h2, h3, rfl, rfl, rfl⟩ <;>
    rcases k with ⟨k1, rfl, rfl, rfl⟩ | ⟨k1, rfl, rfl, j, rfl, k2, b, k3, k4⟩ | ⟨k1, k2, k3, rfl, rfl, rfl⟩ | ⟨k1, k2, k3, rfl, rfl, rfl⟩
  all_goals first
    | exact ⟨rfl, rfl, rfl⟩
    | (exfalso; omega)
    | skip
  · have e1 := prr_at h2 k3 k4
    have e2 := prr_at k2 h3 h4
    have : i = j := by omega
    subst this
    exact ⟨rfl, rfl, rfl⟩
  · exact absurd (k2 a (List.mem_of_getElem? h3)) h4
  · exact absurd (k2 a (List.mem_of_getElem? h3)) h4
  · exact absurd (h2 b (List.mem_of_getElem? k3)) k4
  · exact absurd (h2 b (List.mem_of_getElem? k3)) k4

end Go.Proofs.YtdlogcdpapknaaaGreatDoor
