/- Texts of one layer, one behind the other. -/
import Derived.Test.YtmmfakpphjjjfaaGreatG12
import Derived.Test.YtmmfakpphjjjfaaGreatG5
import Derived.Test.YtmmfakpphjjjfaaGreatG10
import Derived.Test.YtmmfakpphjjjfaaGreatG11
/- The contract of run.Decode. -/
namespace Go.Proofs.YtmmfakpphjjjfaaGreat
open Go.RowKit
open Bm (Ov)
set_option linter.unusedVariables false

theorem fit_c {l : List Ov} (h : ∀ o ∈ l, o.c = 0) : FitO l := fun o ho => by
 obtain ⟨_, h2, h3, _⟩ := Om.chk_ok' (h o ho)
 have e1 : o.k.size = o.k.data.toList.length := rfl
 have e2 : o.v.size = o.v.data.toList.length := rfl
 have e3 : o.kl = o.k.data.toList := rfl
 have e4 : o.vl = o.v.data.toList := rfl
 rw [e3] at h2
 rw [e4] at h3
 omega

theorem RdR.good {bs : List Int} {x y a : Int} {l : List Ov} (h : RdR bs x y l a 0) : (∀ o ∈ l, o.c = 0) ∧ l.length ≤ 1048576 ∧ In64 x ∧ In64 y ∧ (0 ≤ a ∧ a ≤ bs.length) ∧ (a = bs.length ∧ Rn.chk x y l = 0 → Rn.Dc bs x y l 0) ∧ (¬ (a = bs.length ∧ Rn.chk x y l = 0) → Rn.No bs) := by
 rcases h with ⟨h0, _⟩ | ⟨_, X, Y, rfl, rfl, h1, h2, h3, h4, h5, h6, h7, h8, ha⟩
 ·cases h0
 ·have q1 := h4.length_le
  have e1 : (Vm.enc X).length = Vm.sz X := rfl
  have q2 := enc_in h5 (by omega)
  have q3 := enc_in h6 (by omega)
  have q4 := h7.length_le
  rw [List.length_drop] at q4
  refine ⟨h8, h3, ⟨by omega, by omega⟩, ⟨by omega, by omega⟩, ⟨by omega, by omega⟩, fun h => .inl ⟨rfl, h.2, Rn.ok5 h4 h5 h6 h7 (by have := h.1; omega)⟩, fun h => ?_⟩
  refine Rn.no5 h4 h5 h6 h7 h8 ?_
  by_cases hc : Rn.chk X Y l = 0
  ·exact .inl fun e => h ⟨by omega, hc⟩
  ·exact .inr hc

set_option maxRecDepth 20000 in
set_option maxHeartbeats 2000000 in
theorem hdec_any (vb : Value) (bs : List Int) (w : World) (hb : Is .u8 w vb bs) (hl : bs.length ≤ 140737488355328) :
  Calls Tryz.prog 67 #[vb] w fun E w' => ∃ (x y g : Int) (v : Value) (l : List Ov), E = .returned (.tuple #[cmv x y v, .int .i64 g]) ∧ OwnO 65 w.heap.size w' v l ∧ Hid (Rn.Dc bs x y l g) ∧ Below w.heap.size w w' := by
 unfold cmv
 obtain ⟨w1, hw1, sz1, bel1, hR1⟩ := blk_step w #[.int .i64 0, .int .i64 0, .slice none 0 0] 112
 have HRD := hide (hread_any vb bs w1 (hb.below bel1) hl)
 unfold cmv at HRD
 obtain ⟨ao, cap, hvb, _, _⟩ := hb.shape
 subst hvb
 clear hb
 go_enter Tryz.func67, Tryz.ntmps67
 go_wp2_with fail
 refine HRD.out.mono ?_
 rintro E w2 ⟨x, y, a, e, v, l, rfl, own2, HR, bel2⟩
 have sz2 := bel2.size
 obtain ⟨av, nv, kv, hvv⟩ : ∃ a n k, v = .slice a n k := by
  obtain ⟨a1, k1, h1, _⟩ := own2.is.shape
  exact ⟨a1, _, k1, h1⟩
 subst hvv
 obtain ⟨w3, hw3, hw3', sz3, bel3, b3, x0, x1, x2⟩ := new_step w2 112 (.int .i64 0) (.int .i64 0) (.slice none 0 0) (.int .i64 x) (.int .i64 y) (.slice av nv kv)
 have bel13 := bel2.trans (bel3.mono sz2)
 have B0 := (bel13.block _ (blk_lt hR1)).trans hR1
 have own3 := own2.below bel3
 have bel03 := bel1.trans (bel13.mono bel1.size)
 clear bel1 bel2 bel3 bel13 own2 HRD hR1
 have he : e = 0 ∨ e = 5 := by
  rcases HR.out with ⟨h, _⟩ | ⟨h, _⟩
  ·exact .inr h
  ·exact .inl h
 have BAD : Hid (Rn.No bs → Rn.Dc bs 0 0 [] 5) := hide fun h => .inr ⟨rfl, rfl, rfl, rfl, h⟩
 rcases he with rfl | rfl
 ·obtain ⟨g1, g2, g3, g4, g5, g6, g7⟩ := HR.out.good
  have HG6 := hide g6
  have HG7 := hide g7
  by_cases ha : a = bs.length
  ·have hne : (a != (bs.length : Int)) = false := by simp [ha]
   have HA := hide ha
   have HC := hide (hcheck_any x y (.slice av nv kv) l w3 own3.is (fit_c g1) (by omega))
   unfold cmv at HC
   obtain ⟨ck, hck⟩ : ∃ c, Rn.chk x y l = c := ⟨_, rfl⟩
   rw [hck] at HC
   have HCK := hide hck
   generalize bs.length = nb at *
   clear g1 g6 g7 ha hck
   go_wp2_with fail
   refine HC.out.mono ?_
   rintro E w4 ⟨rfl, bel4⟩
   have sz4 := bel4.size
   have B4 := (bel4.block _ (blk_lt B0)).trans B0
   have C4 := (bel4.block _ (blk_lt b3)).trans b3
   have own4 := own3.below bel4
   have bel04 := bel03.trans (bel4.mono bel03.size)
   clear B0 b3 own3 bel03 x0 x1 x2 HC bel4
   by_cases hc0 : ck = 0
   ·subst hc0
    have DC := hide (HG6.out ⟨HA.out, HCK.out⟩)
    obtain ⟨V, hV, bV, gV, ⟨z0, z1, z2⟩, ⟨f0, f1, f2⟩, ⟨t0, t1, t2⟩⟩ := res_step B4 (.int .i64 x) (.int .i64 y) (.slice av nv kv)
    have y0 := blk_cell C4 0 rfl
    have y1 := blk_cell C4 1 rfl
    have y2 := blk_cell C4 2 rfl
    have OV := hide ((own4.kept gV (by
     cases hq : (Value.slice av nv kv).ownBlock with
     | none => exact .inl rfl
     | some b => exact .inr (by have := (own4.block b hq).1; simp; omega))).rebase (base' := w.heap.size) (by omega))
    have BV := hide (below_put bel04 gV (Nat.le_refl _) bel04.size)
    clear B4 C4 bV gV own4 bel04 HG6 HG7 HR
    go_wp2
    refine bodyPost_ret (v := .tuple #[.agg #[.int .i64 x, .int .i64 y, .slice av nv kv], .int .i64 0]) (by simp [results, Tryz.results67, go_sem, t0, t1, t2]) rfl ?_
    first | exact ⟨x, y, 0, _, l, rfl, OV.out, DC, BV.out⟩ | exact ⟨x, y, 0, _, rfl, l, OV.out, DC, BV.out⟩
   ·have DC := hide (BAD.out (HG7.out fun h => hc0 (by rw [← HCK.out]; exact h.2)))
    have hcb : (ck != 0) = true := by simp [hc0]
    obtain ⟨z0, z1, z2⟩ : w4.cell? ⟨w.heap.size, 0, none⟩ = some (.int .i64 0) ∧ w4.cell? ⟨w.heap.size, 1, none⟩ = some (.int .i64 0) ∧ w4.cell? ⟨w.heap.size, 2, none⟩ = some (.slice none 0 0) := ⟨blk_cell B4 0 rfl, blk_cell B4 1 rfl, blk_cell B4 2 rfl⟩
    have s0 : w4.setCell ⟨w.heap.size, 0, none⟩ (.int .i64 0) = w4 := set_same B4 (j := 0) rfl
    have s1 : w4.setCell ⟨w.heap.size, 1, none⟩ (.int .i64 0) = w4 := set_same B4 (j := 1) rfl
    have s2 : w4.setCell ⟨w.heap.size, 2, none⟩ (.slice none 0 0) = w4 := set_same B4 (j := 2) rfl
    have f0 := blk_froz B4 0; have f1 := blk_froz B4 1; have f2 := blk_froz B4 2
    clear B4 C4 own4 HG6 HG7 HR
    go_wp2
    refine bodyPost_ret (v := .tuple #[.agg #[.int .i64 0, .int .i64 0, .slice none 0 0], .int .i64 5]) (by simp [results, Tryz.results67, go_sem, z0, z1, z2]) rfl ?_
    first | exact ⟨0, 0, 5, _, [], rfl, OwnO.nil _ _ _, DC, bel04⟩ | exact ⟨0, 0, 5, _, rfl, [], OwnO.nil _ _ _, DC, bel04⟩
  ·have hne : (a != (bs.length : Int)) = true := by simp [ha]
   have DC := hide (BAD.out (HG7.out fun h => ha h.1))
   generalize bs.length = nb at *
   obtain ⟨z0, z1, z2⟩ : w3.cell? ⟨w.heap.size, 0, none⟩ = some (.int .i64 0) ∧ w3.cell? ⟨w.heap.size, 1, none⟩ = some (.int .i64 0) ∧ w3.cell? ⟨w.heap.size, 2, none⟩ = some (.slice none 0 0) := ⟨blk_cell B0 0 rfl, blk_cell B0 1 rfl, blk_cell B0 2 rfl⟩
   have s0 : w3.setCell ⟨w.heap.size, 0, none⟩ (.int .i64 0) = w3 := set_same B0 (j := 0) rfl
   have s1 : w3.setCell ⟨w.heap.size, 1, none⟩ (.int .i64 0) = w3 := set_same B0 (j := 1) rfl
   have s2 : w3.setCell ⟨w.heap.size, 2, none⟩ (.slice none 0 0) = w3 := set_same B0 (j := 2) rfl
   have f0 := blk_froz B0 0; have f1 := blk_froz B0 1; have f2 := blk_froz B0 2
   clear B0 b3 own3 HG6 HG7 g1 g6 g7 HR ha
   go_wp2
   refine bodyPost_ret (v := .tuple #[.agg #[.int .i64 0, .int .i64 0, .slice none 0 0], .int .i64 5]) (by simp [results, Tryz.results67, go_sem, z0, z1, z2]) rfl ?_
   first | exact ⟨0, 0, 5, _, [], rfl, OwnO.nil _ _ _, DC, bel03⟩ | exact ⟨0, 0, 5, _, rfl, [], OwnO.nil _ _ _, DC, bel03⟩
 ·have DC := hide (BAD.out (by
   rcases HR.out with ⟨_, _, _, _, _, h⟩ | ⟨h, _⟩
   ·exact h
   ·cases h))
  obtain ⟨z0, z1, z2⟩ : w3.cell? ⟨w.heap.size, 0, none⟩ = some (.int .i64 0) ∧ w3.cell? ⟨w.heap.size, 1, none⟩ = some (.int .i64 0) ∧ w3.cell? ⟨w.heap.size, 2, none⟩ = some (.slice none 0 0) := ⟨blk_cell B0 0 rfl, blk_cell B0 1 rfl, blk_cell B0 2 rfl⟩
  have s0 : w3.setCell ⟨w.heap.size, 0, none⟩ (.int .i64 0) = w3 := set_same B0 (j := 0) rfl
  have s1 : w3.setCell ⟨w.heap.size, 1, none⟩ (.int .i64 0) = w3 := set_same B0 (j := 1) rfl
  have s2 : w3.setCell ⟨w.heap.size, 2, none⟩ (.slice none 0 0) = w3 := set_same B0 (j := 2) rfl
  have f0 := blk_froz B0 0; have f1 := blk_froz B0 1; have f2 := blk_froz B0 2
  clear B0 b3 own3 HR
  go_wp2
  refine bodyPost_ret (v := .tuple #[.agg #[.int .i64 0, .int .i64 0, .slice none 0 0], .int .i64 5]) (by simp [results, Tryz.results67, go_sem, z0, z1, z2]) rfl ?_
  first | exact ⟨0, 0, 5, _, [], rfl, OwnO.nil _ _ _, DC, bel03⟩ | exact ⟨0, 0, 5, _, rfl, [], OwnO.nil _ _ _, DC, bel03⟩

end Go.Proofs.YtmmfakpphjjjfaaGreat

/- slices.Clone of a list of ops. -/
namespace Go.Proofs.YtmmfakpphjjjfaaGreat
open Go.RowKit
set_option linter.unusedVariables false

set_option maxHeartbeats 400000 in
theorem cloneO_any (vl : Value) (l : List Bm.Ov) (w : World) (h : IsO w vl l) (hl : l.length * 40 ≤ 140737488351232) :
  Calls Tryz.prog 126 #[vl] w fun e w' => ∃ v, e = .returned v ∧ OwnO 65 w.heap.size w' v l ∧ Below w.heap.size w w' := by
 have q : ∀ (w : World) (a : Option Addr) (n c n' c' : Nat), (binOp .eql 48 (.slice a n c) (.slice none n' c')).run Tryz.prog w = .ok (.bool a.isNone) w := fun w a n c n' c' => Lib.run_eql_slice_nil w _ _ a n c n' c' Tryz.underlying48
 by_cases hn : vl = .slice none 0 0
 ·subst hn
  have : l = [] := by
   rcases h with ⟨_, h⟩ | ⟨ad, cap, h, _⟩
   ·exact h
   ·simp at h
  subst this
  clear h hl
  go_enter Tryz.func126, Tryz.ntmps126
  go_wp2
  go_ret
  exact ⟨_, rfl, OwnO.nil _ _ _, Below.refl _ _⟩
 ·obtain ⟨ad, cap, rfl⟩ : ∃ ad cap, vl = .slice (some ad) l.length cap := by
   rcases h with ⟨h, _⟩ | ⟨ad, cap, h, _⟩
   ·exact absurd h hn
   ·exact ⟨ad, cap, h⟩
  clear hn
  obtain ⟨w1, hw1, sz1, bel1, own1⟩ := ops_step 65 w #[] 0 [] rfl rfl (by simp [maxLen])
  have h1 := h.below bel1
  go_enter Tryz.func126, Tryz.ntmps126
  go_wp2_with (at_builtin; refine wpList_append_ops rfl (.tmp 5) (.tmp 6) 48 rfl 65 w.heap.size Tryz.underlying48 Tryz.info65 _ [] rfl own1 _ l rfl h1 (by simp; omega) (by omega) ?_)
  intro v2 w2 own2 bel2 _
  go_wp2
  go_ret
  exact ⟨_, rfl, by simpa using own2, bel1.trans bel2⟩

set_option maxHeartbeats 400000 in
theorem stepsR_any (p : Nat) (F : Nat → Prop) (w : World) (st : Dm.Ds) (h : Dk p F w st) : Calls Tryz.prog 23 #[.pointer (some ⟨p, 0, none⟩)] w fun E w' => E = .returned (.int .i64 st.count) ∧ w = w' := by
 have hn := noneR_any p F w st h
 obtain ⟨s, wv, rs, h⟩ := h
 have c9 := h.c9
 have HN := hide hn
 clear h hn
 go_enter Tryz.func23, Tryz.ntmps23
 go_wp2_with fail
 refine HN.out.mono ?_
 rintro E w1 ⟨rfl, rfl⟩
 go_wp2
 go_ret
 exact ⟨rfl, rfl⟩

theorem DkV.len {p : Nat} {F : Nat → Prop} {w : World} {st : Dm.Ds} {s : Nat → Value} {wv : Value} {rs : List Rv} (h : DkV p F w st s wv rs) : st.wait.length = rs.length := by rw [← h.wait, List.length_map]

set_option maxHeartbeats 400000 in
theorem fuseR_any (p : Nat) (F : Nat → Prop) (w : World) (st : Dm.Ds) (n : Int) (h : Dk p F w st) :
  Calls Tryz.prog 11 #[.pointer (some ⟨p, 0, none⟩), .int .i64 n] w fun E w' => E = .returned (.int .i64 (Dm.fuse st n).1) ∧ DStep p F w w' (Dm.fuse st n).2 := by
 have ha := askedR_any p F w st h
 have HK := hide h
 obtain ⟨s, wv, rs, h⟩ := h
 have c7 := h.c7
 have f7 := h.froz 7
 have HA := hide ha
 clear ha
 unfold Dm.fuse
 cases hon : st.on
 ·rw [if_pos rfl]
  have hk := ask_off hon
  clear hon h
  go_enter Tryz.func11, Tryz.ntmps11
  go_wp2_with fail
  refine HA.out.mono ?_
  rintro E w1 ⟨rfl, rfl⟩
  rw [hk]
  go_wp2
  go_ret
  exact ⟨rfl, DStep.same HK.out (Below.refl _ _)⟩
 ·rw [if_neg (by simp)]
  have hk := ask_on hon
  by_cases hn : n < 0
  ·rw [if_pos hn]
   clear hon h
   go_enter Tryz.func11, Tryz.ntmps11
   go_wp2_with fail
   refine HA.out.mono ?_
   rintro E w1 ⟨rfl, rfl⟩
   rw [hk]
   go_wp2
   go_ret
   exact ⟨rfl, DStep.same HK.out (Below.refl _ _)⟩
  ·rw [if_neg hn]
   have hcast : ((n.toNat : Nat) : Int) = n := by omega
   have R1 := h.put (st' := { st with has := true }) (s' := s) (wv' := wv) (rs' := rs) 7 (.bool true) rfl h.file h.row h.inr h.raw h.wait h.ok
   have R2 := R1.1.put (st' := { st with has := true, left := n.toNat }) (s' := s) (wv' := wv) (rs' := rs) 8 (.int .i64 n) (by simp [dcells, hcast]) R1.1.file R1.1.row R1.1.inr R1.1.raw h.wait h.ok
   have HR : Hid (DStep p F w ((w.setCell ⟨p, 7, none⟩ (.bool true)).setCell ⟨p, 8, none⟩ (.int .i64 n)) { st with has := true, left := n.toNat }) := DStep.mk' ⟨_, _, _, R2.1⟩ (R1.2.trans R2.2 fun g hg => .inl hg)
   have d8 := R1.1.c8
   have g8 := R1.1.froz 8
   have hs : { st with has := true, left := n.toNat } = ({ sure := st.sure, wait := st.wait, on := true, has := true, left := n.toNat, count := st.count } : Dm.Ds) := by rw [← hon]
   rw [hs] at HR
   clear h R1 R2 hs hcast hon
   go_enter Tryz.func11, Tryz.ntmps11
   go_wp2_with fail
   refine HA.out.mono ?_
   rintro E w1 ⟨rfl, rfl⟩
   rw [hk]
   go_wp2
   go_ret
   exact ⟨rfl, HR.out⟩

set_option maxHeartbeats 4000000 in
theorem withR_any (vb : Value) (bs : List Int) (r : Rv) (w : World) (hb : Is .u8 w vb bs) (hv : Is .u8 w r.v r.bytes) (hto : r.cut = true → r.to ≤ bs.length) (hl : bs.length + r.bytes.length ≤ 140737488355328) :
  Calls Tryz.prog 73 #[vb, .agg #[.int .i64 r.file, .bool r.cut, .int .i64 r.to, r.v]] w fun E w' => ∃ v, E = .returned v ∧ Own .u8 5 w.heap.size w' v (Dm.wth bs r.r) ∧ Below w.heap.size w w' := by
 obtain ⟨w1, hw1, sz1, bel1, hB⟩ := blk_step w #[.int .i64 r.file, .bool r.cut, .int .i64 r.to, r.v] 118
 have c1 : w1.cell? ⟨w.heap.size, 1, none⟩ = some (.bool r.cut) := blk_cell hB 1 rfl
 have c2 : w1.cell? ⟨w.heap.size, 2, none⟩ = some (.int .i64 r.to) := blk_cell hB 2 rfl
 have c3 : w1.cell? ⟨w.heap.size, 3, none⟩ = some r.v := blk_cell hB 3 rfl
 have hb1 := hb.below bel1
 have hv1 := hv.below bel1
 have BB := hide hB
 clear hB
 cases hc : r.cut
 ·have e : Dm.wth bs r.r = bs ++ r.bytes := by simp [Dm.wth, Rv.r, hc]
  rw [e]
  rw [hc] at hw1
  have c1' : w1.cell? ⟨w.heap.size, 1, none⟩ = some (.bool false) := by rw [← hc]; exact c1
  clear c1 c2 hto hc e
  go_enter Tryz.func73, Tryz.ntmps73
  go_wp2_with (at_builtin; refine wpList_append_is rfl (.tmp 14) (.tmp 15) 66 rfl .u8 5 w1.heap.size 1 Tryz.underlying66 Tryz.info5 (by decide) _ [] rfl (Own.nil _ _ _ _) _ bs rfl hb1 (by simp; omega) (Nat.le_refl _) ?_)
  intro v2 w2 own2 bel2 _
  have sz2 := bel2.size
  have d3 := (bel2.cell (p := ⟨w.heap.size, 3, none⟩) (by simp)).trans c3
  have hv2 := hv1.below (bel2.mono (by omega))
  clear c3 c1' hb1 hv1
  go_wp2_with (at_builtin; refine wpList_append_is rfl (.tmp 17) (.tmp 19) 66 rfl .u8 5 (w.heap.size + 1) 1 Tryz.underlying66 Tryz.info5 (by decide) _ bs rfl own2 _ r.bytes rfl hv2 (by omega) (by omega) ?_)
  intro v3 w3 own3 bel3 _
  have own3' := own3.rebase (base' := w.heap.size) (by omega)
  have bel03 : Below w.heap.size w w3 := (bel1.trans (bel2.mono (by omega))).trans (bel3.mono (by omega))
  go_wp2
  go_ret
  exact ⟨_, rfl, own3', bel03⟩
 ·have e : Dm.wth bs r.r = bs.take r.to := by simp [Dm.wth, Rv.r, hc]
  rw [e]
  have hto' := hto hc
  obtain ⟨vs, hsl, isl⟩ := hb1.slice_h Tryz.elemP Tryz.sizeP r.to hto'
  rw [hc] at hw1
  have c1' : w1.cell? ⟨w.heap.size, 1, none⟩ = some (.bool true) := by rw [← hc]; exact c1
  clear c1 c3 hto hc e
  go_enter Tryz.func73, Tryz.ntmps73
  go_wp2_with (at_builtin; refine wpList_append_is rfl (.tmp 8) (.tmp 12) 66 rfl .u8 5 w1.heap.size 1 Tryz.underlying66 Tryz.info5 (by decide) _ [] rfl (Own.nil _ _ _ _) _ _ rfl isl (by simp; omega) (Nat.le_refl _) ?_)
  intro v2 w2 own2 bel2 _
  have own2' := own2.rebase (base' := w.heap.size) (by omega)
  have bel02 : Below w.heap.size w w2 := bel1.trans (bel2.mono (by omega))
  go_wp2
  go_ret
  exact ⟨_, rfl, own2', bel02⟩

theorem raw_at {p : Nat} {F : Nat → Prop} {w : World} {st : Dm.Ds} {s : Nat → Value} {wv : Value} {rs : List Rv} (h : DkV p F w st s wv rs) {k : Nat} {r : Rv} (hk : rs[k]? = some r) : st.wait[k]? = some r.r := by
 rw [← h.wait, List.getElem?_map, hk]
 rfl

theorem wtake_next {l : List Dm.Rw} {k : Nat} {r : Dm.Rw} (h : l[k]? = some r) : l.take (k + 1) = l.take k ++ [r] := by
 obtain ⟨hk, rfl⟩ := List.getElem?_eq_some_iff.1 h
 exact List.take_succ_eq_append_getElem hk

theorem bulk_take : ∀ (l : List Dm.Rw) (k : Nat), Dm.bulk (l.take k) ≤ Dm.bulk l
 | [], k => by simp [Dm.bulk]
 | r :: l, 0 => by simp [Dm.bulk]
 | r :: l, k + 1 => by
  have := bulk_take l k
  simp only [List.take_succ_cons, Dm.bulk]
  omega

theorem bulk_at {l : List Dm.Rw} {k : Nat} {r : Dm.Rw} (h : l[k]? = some r) : Dm.bulk (l.take k) + r.bytes.length ≤ Dm.bulk l := by
 have h1 := bulk_take l (k + 1)
 rw [wtake_next h, Dm.bulk_app] at h1
 simp only [Dm.bulk] at h1
 omega

theorem hold_next {l : List Dm.Rw} {k : Nat} {r : Dm.Rw} (h : l[k]? = some r) (f : Nat) (b : List Int) : Dm.hold f b (l.take (k + 1)) = if r.file = f then Dm.wth (Dm.hold f b (l.take k)) r else Dm.hold f b (l.take k) := by
 rw [wtake_next h, Dm.hold_snoc]

set_option maxHeartbeats 1000000 in
theorem holdsR_any (p : Nat) (F : Nat → Prop) (w : World) (st : Dm.Ds) (f : Nat) (h : Dk p F w st) (hf : f < 4) (hsz : (st.sure f).length + Dm.bulk st.wait ≤ 140737488355000) (hw : st.wait.length ≤ 1000000) :
  Calls Tryz.prog 33 #[.pointer (some ⟨p, 0, none⟩), .int .i64 f] w fun E w' => ∃ v, E = .returned v ∧ Own .u8 5 w.heap.size w' v (Dm.hold f (st.sure f) st.wait) ∧ Below w.heap.size w w' := by
 obtain ⟨s, wv, rs, h⟩ := h
 have cf := h.cf f hf
 have c5 := h.c5
 have hp := h.lt p h.inp
 have isf := (h.file f hf).1
 have hlr := h.len
 obtain ⟨ao, cap, hv, hcap, hcm⟩ := h.row.row.shape
 have hrow : 0 < rs.length → ∃ b off c, wv = .slice (some ⟨b, off, none⟩) rs.length c ∧ b < w.heap.size ∧ ∀ i a, rs[i]? = some a → ∀ j u, (rawc a)[j]? = some u → w.cell? ⟨b, off + i * 4 + j, none⟩ = some u := by
  intro h0
  obtain ⟨b, off, c, h1, _, _, h4, h5⟩ := h.row.row.full rawc_len (by decide) h0
  exact ⟨b, off, c, h1, h4, h5⟩
 have H := hide h
 have HROW := hide hrow
 subst hv
 clear h hrow
 have hf0 : (0 : Int) ≤ (f : Int) := by omega
 have hf4 : (f : Int) < 4 := by omega
 go_enter Tryz.func33, Tryz.ntmps33
 go_wp2_with (at_builtin; refine wpList_append_is rfl (.tmp 7) (.tmp 13) 66 rfl .u8 5 w.heap.size 1 Tryz.underlying66 Tryz.info5 (by decide) _ [] rfl (Own.nil _ _ _ _) _ (st.sure f) rfl isf (by simp; omega) (Nat.le_refl _) ?_)
 intro v1 w1 own1 bel1 _
 clear cf isf
 go_wp2
 go_loopw [5, 6] (fun bv iv wr => ∃ k : Nat, k ≤ rs.length ∧ iv = .int .i64 k ∧ Hid (Own .u8 5 w.heap.size wr bv (Dm.hold f (st.sure f) (st.wait.take k))) ∧ Below w.heap.size w wr) (fun _ iv _ => rs.length - (intOf iv).toNat)
 case atStart => exact ⟨0, by omega, rfl, hide (by simpa [Dm.hold] using own1), bel1⟩
 case round =>
  obtain ⟨k, hk, rfl, HT, bel⟩ := hrel
  have sz := bel.size
  have d5 := (bel.cell (p := ⟨p, 5, none⟩) hp).trans c5
  by_cases hlt : k < rs.length
  ·obtain ⟨b, off, cq, hvx, hB, hcell⟩ := HROW.out (by omega)
   simp only [Value.slice.injEq, true_and] at hvx
   obtain ⟨rfl, rfl⟩ := hvx
   obtain ⟨r, hr⟩ : ∃ r, rs[k]? = some r := ⟨rs[k], by rw [List.getElem?_eq_getElem]⟩
   have e0 : wr.cell? ⟨b, off + k * 4, none⟩ = some (.int .i64 r.file) := (bel.cell (p := ⟨b, off + k * 4, none⟩) hB).trans (hcell k r hr 0 _ rfl)
   have e1 : wr.cell? ⟨b, off + k * 4 + 1, none⟩ = some (.bool r.cut) := (bel.cell (p := ⟨b, off + k * 4 + 1, none⟩) hB).trans (hcell k r hr 1 _ rfl)
   have e2 : wr.cell? ⟨b, off + k * 4 + 2, none⟩ = some (.int .i64 r.to) := (bel.cell (p := ⟨b, off + k * 4 + 2, none⟩) hB).trans (hcell k r hr 2 _ rfl)
   have e3 : wr.cell? ⟨b, off + k * 4 + 3, none⟩ = some r.v := (bel.cell (p := ⟨b, off + k * 4 + 3, none⟩) hB).trans (hcell k r hr 3 _ rfl)
   have hst := raw_at H.out hr
   have hbl := bulk_at hst
   have hhl := Dm.hold_len (st.wait.take k) (st.sure f) f
   have hfit := Dm.valid_at H.out.ok hst
   have ir := ((H.out.raw r (List.mem_of_getElem? hr)).1).below bel
   have HN := hide (hold_next hst f (st.sure f))
   have hlt' : (k : Int) < rs.length := by omega
   have hk0 : (0 : Int) ≤ (k : Int) := by omega
   by_cases hff : r.file = f
   ·have hfe : ((r.file : Int) == (f : Int)) = true := by simp [hff]
    have hto : r.cut = true → r.to ≤ (Dm.hold f (st.sure f) (st.wait.take k)).length := by
     intro hc
     have := hfit.2.1 hc
     rw [show r.r.file = f from hff, ← Dm.hold_dof] at this
     exact this
    have HO := hide HT.out.is
    have HTO := hide hto
    have hlen : (Dm.hold f (st.sure f) (st.wait.take k)).length + r.bytes.length ≤ 140737488355328 := by
     have : r.r.bytes = r.bytes := rfl
     rw [this] at hbl
     omega
    have hff' : r.r.file = f := hff
    have HFF := hide hff'
    clear hst hbl hhl hfit hto hff hff' hcell hr
    go_wp2_with fail
    refine (withR_any _ _ r _ HO.out ir HTO.out hlen).mono ?_
    rintro E w2 ⟨v2, rfl, own2, bel2⟩
    have HT2 : Hid (Own .u8 5 w.heap.size w2 v2 (Dm.hold f (st.sure f) (st.wait.take (k + 1)))) := hide (by
     rw [HN.out, if_pos HFF.out]
     exact own2.rebase (by omega))
    have belR := bel.trans (bel2.mono (by omega))
    clear own2 bel2 HO HTO hlen
    go_wp2
    go_roundw
    case rel => exact ⟨k + 1, by omega, by go_num, HT2, belR⟩
    case measure => simp [intOf]; omega
   ·have hfe : ((r.file : Int) == (f : Int)) = false := by simp; omega
    have HT2 := hide (show Own .u8 5 w.heap.size wr _ (Dm.hold f (st.sure f) (st.wait.take (k + 1))) by rw [HN.out, if_neg (show ¬ r.r.file = f from hff)]; exact HT.out)
    clear hst hbl hhl hfit hcell hr hff
    go_wp2
    go_roundw
    case rel => exact ⟨k + 1, by omega, by go_num, HT2, bel⟩
    case measure => simp [intOf]; omega
  ·have hlt' : ¬ (k : Int) < rs.length := by omega
   have HT2 := HT.out
   rw [List.take_of_length_le (by omega)] at HT2
   clear HT
   go_wp2
   go_ret
   exact ⟨_, rfl, HT2, bel⟩

set_option maxHeartbeats 2000000 in
theorem behind_any (base : Nat) (vb : Value) (bs : List Int) (r : Rv) (w : World) (hb : Own .u8 5 base w vb bs) (hbase : base ≤ w.heap.size) (hv : Is .u8 w r.v r.bytes) (hto : r.cut = true → r.to ≤ bs.length) (hl : bs.length + r.bytes.length ≤ 140737488355328) :
  Calls Tryz.prog 108 #[.agg #[.int .i64 (kof r), .int .i64 r.file, r.v, .int .i64 r.to], vb] w fun E w' => ∃ v, E = .returned v ∧ Own .u8 5 base w' v (Dm.wth bs r.r) ∧ Out (fun g => vb.ownBlock = some g) w w' ∧ ∀ b, v.ownBlock = some b → vb.ownBlock = some b ∨ w.heap.size ≤ b := by
 cases hc : r.cut
 ·have hk : kof r = 0 := by simp [kof, hc]
  have e : Dm.wth bs r.r = bs ++ r.bytes := by simp [Dm.wth, Rv.r, hc]
  rw [e, hk]
  obtain ⟨w1, hw1, sz1, bel1, hB⟩ := blk_step w #[.int .i64 0, .int .i64 r.file, r.v, .int .i64 r.to] 143
  have c0 : w1.cell? ⟨w.heap.size, 0, none⟩ = some (.int .i64 0) := blk_cell hB 0 rfl
  have c2 : w1.cell? ⟨w.heap.size, 2, none⟩ = some r.v := blk_cell hB 2 rfl
  have hb1 := hb.below bel1
  have hv1 := hv.below bel1
  have X : Hid (∀ ty, ∃ v' w', (Builtin.append_ #[66, 66] ty #[vb, r.v]).run Tryz.prog w1 = .ok v' w' ∧ (Own .u8 5 base w' v' (bs ++ r.bytes) ∧ w1.grownBy w' vb.ownBlock ∧ (v'.ownBlock = vb.ownBlock ∨ v'.ownBlock = some w1.heap.size))) := hide fun ty =>
   run_append_is_at 66 ty .u8 5 base 1 Tryz.underlying66 Tryz.info5 (by decide) vb bs hb1 r.v r.bytes hv1 (by omega) (by omega)
  clear hB hb1 hv1 hto hc e hk
  go_enter Tryz.func108, Tryz.ntmps108
  go_wp2_with (at_builtin; refine wpList_append_at rfl (.tmp 9) (.tmp 11) 66 rfl vb r.v rfl rfl X.out ?_)
  intro v2 w2 own2 gr2 at2
  have ho : Out (fun g => vb.ownBlock = some g) w w2 := (Out.of_below bel1).trans (G := fun g => vb.ownBlock = some g) (Out.of_grown gr2 fun g hg => hg) fun g hg => .inl hg
  have hat : ∀ b, v2.ownBlock = some b → vb.ownBlock = some b ∨ w.heap.size ≤ b := by
   intro b hb'
   rcases at2 with h | h
   ·exact .inl (by rw [← h]; exact hb')
   ·rw [hb'] at h
    simp at h
    exact .inr (by omega)
  have HO := hide ho
  have HAT := hide hat
  clear ho hat at2 gr2
  go_wp2
  go_ret
  exact ⟨_, rfl, own2, HO.out, HAT.out⟩
 ·have hk : kof r = 1 := by simp [kof, hc]
  have e : Dm.wth bs r.r = bs.take r.to := by simp [Dm.wth, Rv.r, hc]
  rw [e, hk]
  have hto' := hto hc
  obtain ⟨w1, hw1, sz1, bel1, hB⟩ := blk_step w #[.int .i64 1, .int .i64 r.file, r.v, .int .i64 r.to] 143
  have c0 : w1.cell? ⟨w.heap.size, 0, none⟩ = some (.int .i64 1) := blk_cell hB 0 rfl
  have c3 : w1.cell? ⟨w.heap.size, 3, none⟩ = some (.int .i64 r.to) := blk_cell hB 3 rfl
  obtain ⟨vs, hsl, own, hat⟩ := (hb.below bel1).slice_h Tryz.elemP Tryz.sizeP r.to hto'
  have HO : Hid (Out (fun g => vb.ownBlock = some g) w w1) := hide (Out.of_below bel1)
  have HAT : Hid (∀ b, vs.ownBlock = some b → vb.ownBlock = some b ∨ w.heap.size ≤ b) := hide fun b hb' => .inl (hat b hb')
  clear hB hat hto hc e hk
  go_enter Tryz.func108, Tryz.ntmps108
  go_wp2
  go_ret
  exact ⟨_, rfl, own, HO.out, HAT.out⟩

set_option maxHeartbeats 2000000 in
theorem held_any (p : Nat) (F : Nat → Prop) (w : World) (st : Dm.Ds) (f : Nat) (h : Pk p F w st) (hf : f < 4) (hsz : (st.sure f).length + Dm.bulk st.wait ≤ 140737488355000) (hw : st.wait.length ≤ 1000000) :
  Calls Tryz.prog 65 #[.pointer (some ⟨p, 0, none⟩), .int .i64 f] w fun E w' => ∃ v, E = .returned v ∧ Own .u8 5 w.heap.size w' v (Dm.hold f (st.sure f) st.wait) ∧ Below w.heap.size w w' := by
 obtain ⟨s, wv, rs, h, rfl⟩ := h
 have cf := h.cf f hf
 have c7 := h.c7
 have hp := h.lt p (.inl rfl)
 have isf := (h.con.file f hf).is
 have hlr := h.con.len
 obtain ⟨ao, cap, hv, hcap, hcm⟩ := h.con.row.row.shape
 have hrow : 0 < rs.length → ∃ b off c, wv = .slice (some ⟨b, off, none⟩) rs.length c ∧ b < w.heap.size ∧ ∀ i a, rs[i]? = some a → ∀ j u, (stepc a)[j]? = some u → w.cell? ⟨b, off + i * 4 + j, none⟩ = some u := by
  intro h0
  obtain ⟨b, off, c, h1, _, _, h4, h5⟩ := h.con.row.row.full stepc_len (by decide) h0
  exact ⟨b, off, c, h1, h4, h5⟩
 have H := hide h
 have HROW := hide hrow
 subst hv
 clear h hrow
 have hf0 : (0 : Int) ≤ (f : Int) := by omega
 have hf4 : (f : Int) < 4 := by omega
 go_enter Tryz.func65, Tryz.ntmps65
 go_wp2_with fail
 refine (bclone_any _ _ _ isf (by omega)).mono ?_
 rintro E w1 ⟨v1, rfl, own1, bel1⟩
 have d7 := (bel1.cell (p := ⟨p, 7, none⟩) hp).trans c7
 clear cf isf
 go_wp2
 go_loopw [5, 20] (fun bv iv wr => ∃ k : Nat, k ≤ rs.length ∧ iv = .int .i64 k ∧ Hid (Own .u8 5 w.heap.size wr bv (Dm.hold f (st.sure f) (st.wait.take k))) ∧ Below w.heap.size w wr) (fun _ iv _ => rs.length - (intOf iv).toNat)
 case atStart => exact ⟨0, by omega, rfl, hide (by simpa [Dm.hold] using own1), bel1⟩
 case round =>
  obtain ⟨k, hk, rfl, HT, bel⟩ := hrel
  have sz := bel.size
  by_cases hlt : k < rs.length
  ·obtain ⟨b, off, cq, hvx, hB, hcell⟩ := HROW.out (by omega)
   simp only [Value.slice.injEq, true_and] at hvx
   obtain ⟨rfl, rfl⟩ := hvx
   obtain ⟨r, hr⟩ : ∃ r, rs[k]? = some r := ⟨rs[k], by rw [List.getElem?_eq_getElem]⟩
   have e0 : wr.cell? ⟨b, off + k * 4, none⟩ = some (.int .i64 (kof r)) := (bel.cell (p := ⟨b, off + k * 4, none⟩) hB).trans (hcell k r hr 0 _ rfl)
   have e1 : wr.cell? ⟨b, off + k * 4 + 1, none⟩ = some (.int .i64 r.file) := (bel.cell (p := ⟨b, off + k * 4 + 1, none⟩) hB).trans (hcell k r hr 1 _ rfl)
   have e2 : wr.cell? ⟨b, off + k * 4 + 2, none⟩ = some r.v := (bel.cell (p := ⟨b, off + k * 4 + 2, none⟩) hB).trans (hcell k r hr 2 _ rfl)
   have e3 : wr.cell? ⟨b, off + k * 4 + 3, none⟩ = some (.int .i64 r.to) := (bel.cell (p := ⟨b, off + k * 4 + 3, none⟩) hB).trans (hcell k r hr 3 _ rfl)
   obtain ⟨V, hV, hV2, szV, belV, bV, x0, x1, x2, x3⟩ := new_four wr 143 (.int .i64 0) (.int .i64 0) (.slice none 0 0) (.int .i64 0) (.int .i64 (kof r)) (.int .i64 r.file) r.v (.int .i64 r.to)
   have hst : st.wait[k]? = some r.r := by rw [← H.out.con.wait, List.getElem?_map, hr]; rfl
   have hbl := bulk_at hst
   have hhl := Dm.hold_len (st.wait.take k) (st.sure f) f
   have hfit := Dm.valid_at H.out.ok hst
   obtain ⟨ar, cr, hrv, _, _⟩ := (H.out.con.raw r (List.mem_of_getElem? hr)).1.shape
   have ir := (((H.out.con.raw r (List.mem_of_getElem? hr)).1).below bel).below belV
   have HN := hide (hold_next hst f (st.sure f))
   have hlt' : (k : Int) < rs.length := by omega
   have hk0 : (0 : Int) ≤ (k : Int) := by omega
   have belRV := bel.trans (belV.mono (by omega))
   have HTV := hide (HT.out.below belV)
   by_cases hff : r.file = f
   ·have hfe : ((r.file : Int) == (f : Int)) = true := by simp [hff]
    have hto : r.cut = true → r.to ≤ (Dm.hold f (st.sure f) (st.wait.take k)).length := by
     intro hc
     have := hfit.2.1 hc
     rw [show r.r.file = f from hff, ← Dm.hold_dof] at this
     exact this
    have HTO := hide hto
    have hlen : (Dm.hold f (st.sure f) (st.wait.take k)).length + r.bytes.length ≤ 140737488355328 := by
     have : r.r.bytes = r.bytes := rfl
     rw [this] at hbl
     omega
    have hff' : r.r.file = f := hff
    have HFF := hide hff'
    have BI := hide (fun (v0 : Value) (h0 : Own .u8 5 w.heap.size V v0 (Dm.hold f (st.sure f) (st.wait.take k))) => behind_any w.heap.size v0 _ r V h0 (by omega) ir HTO.out hlen)
    have HB2 := hide bV
    have HRV := hide hrv
    rw [hrv] at e2 hV hV2 x2
    rw [hrv] at BI
    clear hst hbl hhl hfit hto hff hff' hcell hr HTO hlen ir hrv bV
    go_wp2_with fail
    refine (BI.out _ HTV.out).mono ?_
    rintro E w2 ⟨v2, rfl, own2, out2, at2⟩
    have bel2 : Below w.heap.size V w2 := out2.below (fun g hg => (HTV.out.block g hg).1) (by omega)
    have HT2 : Hid (Own .u8 5 w.heap.size w2 v2 (Dm.hold f (st.sure f) (st.wait.take (k + 1)))) := hide (by
     rw [HN.out, if_pos HFF.out]
     exact own2)
    have belR := belRV.trans bel2
    clear own2 bel2 out2 at2
    go_wp2
    go_roundw
    case rel => exact ⟨k + 1, by omega, by go_num, HT2, belR⟩
    case measure => simp [intOf]; omega
   ·have hfe : ((r.file : Int) == (f : Int)) = false := by simp; omega
    have HT2 := hide (show Own .u8 5 w.heap.size V _ (Dm.hold f (st.sure f) (st.wait.take (k + 1))) by rw [HN.out, if_neg (show ¬ r.r.file = f from hff)]; exact HTV.out)
    rw [hrv] at e2 hV hV2 x2
    clear hst hbl hhl hfit hcell hr hff ir hrv bV
    go_wp2
    go_roundw
    case rel => exact ⟨k + 1, by omega, by go_num, HT2, belRV⟩
    case measure => simp [intOf]; omega
  ·have hlt' : ¬ (k : Int) < rs.length := by omega
   have HT2 := HT.out
   rw [List.take_of_length_le (by omega)] at HT2
   clear HT
   go_wp2
   go_ret
   exact ⟨_, rfl, HT2, bel⟩

theorem setCells_grown (g : Nat) : ∀ (vs : List Value) (o : Nat) (w : World), w.grownBy (w.setCells g o vs) (some g)
 | [], _, w => World.grownBy.refl _ _
 | v :: r, o, w => grown_trans (grown_setCell w ⟨g, o, none⟩ v) (setCells_grown g r (o + 1) _)

theorem setCells_cells {g : Nat} {t : TypeId} {fr : Nat × Nat} : ∀ (vs : List Value) (o : Nat) (w : World) (cur : Array Value), w.heap[g]? = some (.cells cur t fr) → ∃ cur', (w.setCells g o vs).heap[g]? = some (.cells cur' t fr) ∧ cur'.size = cur.size ∧ ∀ j, j < o → cur'[j]? = cur[j]?
 | [], _, w, cur, h => ⟨cur, h, rfl, fun _ _ => rfl⟩
 | v :: r, o, w, cur, h => by
  obtain ⟨cur', h1, h2, h3⟩ := setCells_cells r (o + 1) (w.setCell ⟨g, o, none⟩ v) _ (set_cells h o v)
  refine ⟨cur', h1, by rw [h2]; simp, fun j hj => ?_⟩
  rw [h3 j (by omega), Array.getElem?_setIfInBounds, if_neg (by omega)]

theorem own_setCells {w : World} {base e size g n cap : Nat} {xs : List Value} (h : w.ownsRow base e size (.slice (some ⟨g, 0, none⟩) n cap) n xs) (o : Nat) (ho : n * size ≤ o) (vs : List Value) : (w.setCells g o vs).ownsRow base e size (.slice (some ⟨g, 0, none⟩) n cap) n xs := by
 refine ⟨h.1, ?_⟩
 rcases h.2 with ⟨h', _⟩ | ⟨g', cap', cur, h', hb, hg, hnc, hcm, hcs, htake⟩
 ·simp at h'
 ·simp only [Value.slice.injEq, Option.some.injEq, Addr.mk.injEq, and_true, true_and] at h'
  obtain ⟨rfl, rfl⟩ := h'
  obtain ⟨cur', h1, h2, h3⟩ := setCells_cells vs o w cur hg
  refine .inr ⟨g, cap, cur', rfl, hb, h1, hnc, hcm, by rw [h2, hcs], ?_⟩
  rw [← htake]
  apply List.ext_getElem?
  intro i
  rw [List.getElem?_take, List.getElem?_take]
  split
  ·rw [Array.getElem?_toList, Array.getElem?_toList, h3 i (by omega)]
  ·rfl

theorem run_clear_rows {P : Program} {n : Nat} (w : World) (t e ty : TypeId) (z : Value) (ht : P.underlying t = some (.slice e)) (hv : ∀ w, (zeroValue e).run P w = .ok z w) (h1 : ∀ u ∈ (Builtin.zeroCells z.cells n).toList, u.oneCell' = true) (b o c : Nat) (hn : 0 < n)
  (hc : ∀ j, j < (Builtin.zeroCells z.cells n).toList.length → (w.cell? ⟨b, o + j, none⟩).isSome = true) (hf : ∀ j, j < (Builtin.zeroCells z.cells n).toList.length → w.frozen? ⟨b, o + j, none⟩ = false) :
  (Builtin.clear_ #[t] ty #[.slice (some ⟨b, o, none⟩) n c]).run P w = .ok (.tuple #[]) (w.setCells b o (Builtin.zeroCells z.cells n).toList) := by
 have hst := run_storeCells_cells (P := P) b o (Builtin.zeroCells z.cells n).toList 0 w (by simpa using hc) (by simpa using hf) h1
 simp only [Nat.add_zero] at hst
 obtain ⟨m, rfl⟩ : ∃ m, n = m + 1 := ⟨n - 1, by omega⟩
 simp [Builtin.clear_, run_underlying ht, hv, hst]

theorem zeroCells_len (z : Array Value) (n : Nat) : (Builtin.zeroCells z n).toList.length = n * z.size := by
 rw [Array.length_toList, size_zeroCells]

theorem zeroCells_one {z : Array Value} (n : Nat) (hz : ∀ u ∈ z, u.oneCell' = true) : ∀ u ∈ (Builtin.zeroCells z n).toList, u.oneCell' = true := by
 intro u hu
 unfold Builtin.zeroCells at hu
 rw [Array.toList_map, Array.toList_range, List.mem_map] at hu
 obtain ⟨i, hi, rfl⟩ := hu
 rw [List.mem_range] at hi
 have h0 : 0 < z.size := Nat.pos_of_ne_zero fun h => by rw [h] at hi; simp at hi
 have hlt : i % z.size < z.size := Nat.mod_lt _ h0
 rw [getElem!_pos z _ hlt]
 exact hz _ (Array.getElem_mem hlt)

section
variable {α : Type} {P : Program} {w : World} {v : Value}

theorem RowG.slice_l {f : α → List Value} {k : Nat} (hk : ∀ a, (f a).length = k) {l : List α} (h : RowG f w v l) {t : TypeId} (ht : P.underlying t = some (.slice (P.elem t))) (hs : ∀ wx, (sizeOf (P.elem t)).run P wx = .ok k wx) (p : Nat) (hp : p ≤ l.length) :
  ∃ vs, (∀ wx, (Instr.slice t v (some (.int .i64 p)) none none).run P wx = .ok vs wx) ∧ RowG f w vs (l.drop p) := by
 have hlen : (l.drop p).length = l.length - p := by rw [List.length_drop]
 rcases h with ⟨hv, hz⟩ | ⟨ad, cap, hv, h1, h2, hc⟩
 ·subst hz hv
  obtain rfl : p = 0 := by simpa using hp
  refine ⟨.slice none 0 0, fun wx => ?_, RowG.nil _ _⟩
  rw [run_slice_l wx t none 0 0 ht .i64 _ (by omega) (by omega)]
  simp [Result.andThen, sliced, hs]
 ·subst hv
  by_cases hcl : cap = p
  ·refine ⟨.slice (some ad) (l.length - p) (cap - p), fun wx => ?_, .inr ⟨ad, cap - p, by rw [hlen], by rw [hlen]; omega, by omega, fun j u hj => ?_⟩⟩
   ·rw [run_slice_l wx t (some ad) l.length cap ht .i64 _ (by omega) (by omega), hs]
    simp [Result.andThen, sliced, hcl]
   ·rw [List.drop_eq_nil_of_le (by omega)] at hj
    simp [gcells] at hj
  ·refine ⟨.slice (some (ad.add (p * k))) (l.length - p) (cap - p), fun wx => ?_, .inr ⟨ad.add (p * k), cap - p, by rw [hlen], by rw [hlen]; omega, by omega, fun j u hj => ?_⟩⟩
   ·rw [run_slice_l wx t (some ad) l.length cap ht .i64 _ (by omega) (by omega), hs]
    simp [Result.andThen, sliced, hcl]
   ·have e : (ad.add (p * k)).add j = ad.add (p * k + j) := by
     unfold Addr.add
     by_cases h0 : p * k = 0 <;> by_cases h3 : j = 0 <;> simp [h0, h3, Nat.add_assoc]
    rw [gcells_drop hk, List.getElem?_drop] at hj
    rw [e]
    exact hc _ u hj

end

end Go.Proofs.YtmmfakpphjjjfaaGreat
