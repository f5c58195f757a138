/- Texts of one layer, one behind the other. -/
import Derived.Test.YtabfihicdphjeaaGB
/- The contracts of write and Encode (the program's). -/
namespace Go.Proofs.Ytabfihicdphjeaa
open Go.RowKit
set_option linter.unusedVariables false

theorem wf64 {z : Int} (h : In64 z) : (Lit.int .i64 z).wf = true := by
  unfold In64 at h
  simp [Lit.wf, IntKind.min, IntKind.max, IntKind.bits, IntKind.signed]
  omega

/-- Numbers laid out and put behind. -/
theorem put_lit (zs : List Int) (n : Nat) (cs : Array Value) (g : Nat) (vb : Value) (bs : List Int) (w W : World) (hW : w.alloc (.cells cs 3) = W) (hn : zs.length = n) (hcs : cs.toList = zs.map (Value.int .i64)) (h0 : 0 < n) (hz : ∀ z ∈ zs, 0 ≤ z ∧ z < 9223372036854775808) (hb : Buf g w vb bs) (hl : bs.length + 10 * n ≤ 100000000000000) :
    Calls Try.prog 67 #[.slice (some ⟨w.heap.size, 0, none⟩) n n, .pointer (some ⟨g, 0, none⟩)] W fun E w' => E = .returned (.tuple #[]) ∧ ∃ vb', BS g w vb w' vb' (bs ++ Pm.encs zs) := by
  obtain ⟨W', hW', sz, bel, own⟩ := own_step .i64 3 w cs n zs hn hcs (by unfold maxLen; omega) (fun z hzz => wf64 ⟨by have := hz z hzz; omega, by have := hz z hzz; omega⟩)
  rw [hW] at hW'
  subst hW'
  refine (put_any _ zs g vb bs W own.is (by omega) (fun z hzz => (hz z hzz).1) (hb.below bel) ?_ (by rw [hn]; exact hl)).mono ?_
  · intro b he
    simp [Value.ownBlock] at he
    have := hb.lt
    refine ⟨by omega, fun e => ?_⟩
    have := (hb.own.2.lt b e).2
    omega
  · rintro E w' ⟨rfl, vb', h⟩
    exact ⟨rfl, vb', (BS.of_below hb bel).trans h⟩

theorem fl_snoc {l : List Sm.S} {k : Nat} {s : Sm.S} (h : l[k]? = some s) : Mm.fl (l.take (k + 1)) = Mm.fl (l.take k) ++ [s.1, s.2] := by
  rw [List.take_add_one, h, Mm.fl_app]
  rfl

theorem cat_take {l : List Cm.Cv} {k : Nat} {c : Cm.Cv} (h : l[k]? = some c) : Fm.cat ((l.take (k + 1)).map Mm.cb) = Fm.cat ((l.take k).map Mm.cb) ++ Fm.frm (Mm.cb c) := by
  rw [List.take_add_one, h, List.map_append]
  exact Mm.cat_snoc _ _

theorem encs_small {l : List Int} (h : ∀ z ∈ l, z ≤ 1048576) : (Pm.encs l).length ≤ 10 * l.length := (Pm.encs_len (fun z hz => by have := h z hz; omega)).1

theorem fl_bound {l : List Sm.S} {k : Nat} (h : ∀ z ∈ Mm.fl l, 0 ≤ z ∧ z ≤ 1048576) : (Pm.encs (Mm.fl (l.take k))).length ≤ 20 * l.length := by
  have h1 : ∀ z ∈ Mm.fl (l.take k), z ≤ 1048576 := fun z hz => (h z (by
    have : Mm.fl l = Mm.fl (l.take k) ++ Mm.fl (l.drop k) := by rw [← Mm.fl_app, List.take_append_drop]
    rw [this]
    exact List.mem_append_left _ hz)).2
  have h2 := encs_small h1
  rw [Mm.fl_len] at h2
  have : (l.take k).length ≤ l.length := List.length_take_le' _ _
  omega

theorem fl_mem {l : List Sm.S} {k : Nat} {s : Sm.S} (h : l[k]? = some s) (hb : ∀ z ∈ Mm.fl l, 0 ≤ z ∧ z ≤ 1048576) : (0 ≤ s.1 ∧ s.1 ≤ 1048576) ∧ (0 ≤ s.2 ∧ s.2 ≤ 1048576) := by
  have : ∀ z ∈ Mm.fl (l.take (k + 1)), 0 ≤ z ∧ z ≤ 1048576 := fun z hz => hb z (by
    have : Mm.fl l = Mm.fl (l.take (k + 1)) ++ Mm.fl (l.drop (k + 1)) := by rw [← Mm.fl_app, List.take_append_drop]
    rw [this]
    exact List.mem_append_left _ hz)
  rw [fl_snoc h] at this
  exact ⟨this s.1 (by simp), this s.2 (by simp)⟩

theorem frm_small {c : Cm.Cv} (h : Cm.chk c.e c.n c.l = 0) : (Fm.frm (Mm.cb c)).length ≤ 440 := by
  have h1 : (Mm.cb c).length ≤ 430 := Cm.encC_small h
  have h2 := Fm.sz3 (n := (Mm.cb c).length) (by omega)
  rw [Fm.frm_len]
  omega

theorem cat_small : ∀ {l : List Cm.Cv}, (∀ c ∈ l, Cm.chk c.e c.n c.l = 0) → (Fm.cat (l.map Mm.cb)).length ≤ 440 * l.length
  | [], _ => by simp [Fm.cat]
  | c :: r, h => by
    have h1 := cat_small (l := r) (fun d hd => h d (by simp [hd]))
    have h2 := frm_small (h c (by simp))
    simp only [List.map_cons, Fm.cat, List.length_append, List.length_cons]
    omega

set_option maxRecDepth 100000 in
set_option maxHeartbeats 2000000 in
theorem write_3 (m : Mw) (w : World) (hi : IsM w m) (hf : FitM m) (hok : Mm.Ok m.m) (hk : m.k = 3) :
    Calls Try.prog 46 #[mv m] w fun E w' => ∃ vb, E = .returned vb ∧ Own .u8 5 w.heap.size w' vb (Mm.enc m.m) ∧ Below w.heap.size w w' := by
  obtain ⟨hbd, _, _, _, _, _, hk1, hk2, hk3⟩ := Mm.hd_ok hok
  have e1 : 1 ≤ m.e := hok.1
  have e2 : m.e ≤ 1048576 := hok.2.1
  obtain ⟨ao, cap, hvs, _, _⟩ := hi.s.shape
  obtain ⟨ao2, cap2, hvc, _, _⟩ := hi.c.1.shape
  rw [mv_eq hvs hvc]
  obtain ⟨w1, hw1, sz1, bel1, hA⟩ := newm' w m hvs hvc
  obtain ⟨w2, hw2, sz2, bel2, hB⟩ := blk_step w1 #[.slice none 0 0] 50
  rw [sz1] at hB
  have A2 : Hid (MAt w2 w.heap.size m) := hide (hA.below bel2)
  have B2 : Hid (Buf (w.heap.size + 1) w2 (.slice none 0 0) []) := hide ⟨hB, Own.nil _ _ _ _⟩
  have bel02 : Below w.heap.size w w2 := bel1.trans (bel2.mono (by omega))
  have HE : Hid (∀ W, MAt W w.heap.size m → Ei W w.heap.size (.int .i64 m.k) (.int .i64 m.e) (.int .u8 m.r) (.int .i64 m.n) (.slice ao m.ss.length cap) (.int .i64 m.f) (.int .i64 m.p) (.slice ao2 m.cs.length cap2)) := hide fun W k => k.ei' hvs hvc
  obtain ⟨c0, c1, c2, c3, c4, c5, c6, c7⟩ := HE.out _ A2.out
  have HI := hide hi
  have HOK := hide hok
  have HBD := hide hbd
  have HVS := hide hvs
  have HVC := hide hvc
  obtain ⟨w3, hw3, sz3, bel3, _⟩ := blk_step w2 #[.int .i64 m.k, .int .i64 m.e] 3
  have C3 := hide (put_lit [m.k, m.e] 2 #[.int .i64 m.k, .int .i64 m.e] (w.heap.size + 1) _ [] w2 w3 hw3 rfl rfl (by omega) (by intro z hz; simp at hz; omega) B2.out (by simp))
  have hmf : ∀ (fn : Fn) (first cap : Array Value) (w : World), (Instr.makeFunc fn first cap).run Try.prog w = .ok (.func fn first cap) w := fun _ _ _ _ => rfl
  have HK := hide hk
  have hq1 : (m.k == 1) = false := by simp; omega
  have hq2 : (m.k == 2) = false := by simp; omega
  have hq3 : (m.k == 3) = true := by simp [hk]
  rw [sz2, sz1] at C3
  clear hi hok hbd hvs hvc hA hB bel1 bel2 bel3 hk
  go_enter Try.func46, Try.ntmps46
  go_wp2_with fail
  refine C3.out.mono ?_
  rintro E w4 ⟨rfl, v4, bs4⟩
  have B4 := hide bs4.buf
  have bel24 : Below (w.heap.size + 1) w2 w4 := bs4.below B2.out
  have sz4 := bs4.out.size
  have A4 := hide (A2.out.under bel24 (by omega))
  clear c0 c1 c2 c3 c4 c5 c6 c7 bs4 hw1 hw2 hw3 C3
  obtain ⟨c0, c1, c2, c3, c4, c5, c6, c7⟩ := HE.out _ A4.out
  obtain ⟨w5, hw5, sz5, bel5, _⟩ := blk_step w4 #[.int .i64 m.n] 3
  have hn : 0 ≤ m.n ∧ m.n ≤ 1048576 := HBD.out m.n (by rw [Mm.hd_3 (show m.m.k = 3 from HK.out)]; simp [Mw.m])
  have C5 := hide (put_lit [m.n] 1 #[.int .i64 m.n] (w.heap.size + 1) _ _ w4 w5 hw5 rfl rfl (by omega) (by intro z hz; simp at hz; omega) B4.out (by have := encs_small (l := [m.k, m.e]) (by intro z hz; simp at hz; have := HK.out; omega); simp at this ⊢; omega))
  go_wp2_with fail
  refine C5.out.mono ?_
  rintro E w6 ⟨rfl, v6, bs6⟩
  have B6 := hide bs6.buf
  have bel46 : Below (w.heap.size + 1) w4 w6 := bs6.below B4.out
  have bel06 : Below w.heap.size w w6 := (bel02.trans ((bel24.trans bel46).mono (by omega)))
  have own6 := bs6.buf.own.rebase (base' := w.heap.size) (by omega)
  have hres : [] ++ Pm.encs [m.k, m.e] ++ Pm.encs [m.n] = Mm.enc m.m := by
    unfold Mm.enc
    rw [Mm.hd_3 (show m.m.k = 3 from HK.out)]
    have : m.m.cs = [] := by
      rcases HOK.out.2.2 with ⟨k, _⟩ | ⟨k, _⟩ | ⟨_, h⟩
      · have := HK.out; have : m.k = 1 := k; omega
      · have := HK.out; have : m.k = 2 := k; omega
      · exact h.2.2.2.2.2.2
    rw [this]
    simp [Pm.encs, Fm.cat, Mw.m]
  rw [hres] at own6
  have cb : w6.cell? ⟨w.heap.size + 1, 0, none⟩ = some v6 := blk_cell B6.out.box 0 rfl
  obtain ⟨a6, l6, n6, hv6⟩ := own6.is.form
  subst hv6
  clear hres bs6 C5 c0 c1 c2 c3 c4 c5 c6 c7 hw5
  go_wp2
  go_ret
  exact ⟨_, rfl, own6, bel06⟩

set_option maxRecDepth 100000 in
set_option maxHeartbeats 2000000 in
theorem write_1 (m : Mw) (w : World) (hi : IsM w m) (hf : FitM m) (hok : Mm.Ok m.m) (hk : m.k = 1) :
    Calls Try.prog 46 #[mv m] w fun E w' => ∃ vb, E = .returned vb ∧ Own .u8 5 w.heap.size w' vb (Mm.enc m.m) ∧ Below w.heap.size w w' := by
  obtain ⟨hbd, _, _, _, _, _, hk1, hk2, hk3⟩ := Mm.hd_ok hok
  have e1 : 1 ≤ m.e := hok.1
  have e2 : m.e ≤ 1048576 := hok.2.1
  obtain ⟨ao, cap, hvs, _, _⟩ := hi.s.shape
  obtain ⟨ao2, cap2, hvc, _, _⟩ := hi.c.1.shape
  rw [mv_eq hvs hvc]
  obtain ⟨w1, hw1, sz1, bel1, hA⟩ := newm' w m hvs hvc
  obtain ⟨w2, hw2, sz2, bel2, hB⟩ := blk_step w1 #[.slice none 0 0] 50
  rw [sz1] at hB
  have A2 : Hid (MAt w2 w.heap.size m) := hide (hA.below bel2)
  have B2 : Hid (Buf (w.heap.size + 1) w2 (.slice none 0 0) []) := hide ⟨hB, Own.nil _ _ _ _⟩
  have bel02 : Below w.heap.size w w2 := bel1.trans (bel2.mono (by omega))
  have HE : Hid (∀ W, MAt W w.heap.size m → Ei W w.heap.size (.int .i64 m.k) (.int .i64 m.e) (.int .u8 m.r) (.int .i64 m.n) (.slice ao m.ss.length cap) (.int .i64 m.f) (.int .i64 m.p) (.slice ao2 m.cs.length cap2)) := hide fun W k => k.ei' hvs hvc
  obtain ⟨c0, c1, c2, c3, c4, c5, c6, c7⟩ := HE.out _ A2.out
  have HI := hide hi
  have HOK := hide hok
  have HBD := hide hbd
  have HVS := hide hvs
  have HVC := hide hvc
  obtain ⟨w3, hw3, sz3, bel3, _⟩ := blk_step w2 #[.int .i64 m.k, .int .i64 m.e] 3
  have C3 := hide (put_lit [m.k, m.e] 2 #[.int .i64 m.k, .int .i64 m.e] (w.heap.size + 1) _ [] w2 w3 hw3 rfl rfl (by omega) (by intro z hz; simp at hz; omega) B2.out (by simp))
  have hmf : ∀ (fn : Fn) (first cap : Array Value) (w : World), (Instr.makeFunc fn first cap).run Try.prog w = .ok (.func fn first cap) w := fun _ _ _ _ => rfl
  have HK := hide hk
  have hq1 : (m.k == 1) = true := by simp [hk]
  rw [sz2, sz1] at C3
  clear hi hok hbd hvs hvc hA hB bel1 bel2 bel3 hk
  go_enter Try.func46, Try.ntmps46
  go_wp2_with fail
  refine C3.out.mono ?_
  rintro E w4 ⟨rfl, v4, bs4⟩
  have B4 := hide bs4.buf
  have bel24 : Below (w.heap.size + 1) w2 w4 := bs4.below B2.out
  have sz4 := bs4.out.size
  have A4 := hide (A2.out.under bel24 (by omega))
  clear c0 c1 c2 c3 c4 c5 c6 c7 bs4 hw1 hw2 hw3 C3
  obtain ⟨c0, c1, c2, c3, c4, c5, c6, c7⟩ := HE.out _ A4.out
  obtain ⟨w5, hw5, sz5, bel5, _⟩ := blk_step w4 #[.int .i64 m.r, .int .i64 m.n, .int .i64 m.ss.length] 3
  have hd1 := Mm.hd_1 (show m.m.k = 1 from HK.out)
  have hn : 0 ≤ m.n ∧ m.n ≤ 1048576 := HBD.out m.n (by rw [hd1]; simp [Mw.m])
  have hr : 0 ≤ m.r ∧ m.r ≤ 1048576 := HBD.out m.r (by rw [hd1]; simp [Mw.m])
  have hs : (0 : Int) ≤ m.ss.length ∧ (m.ss.length : Int) ≤ 1048576 := HBD.out m.ss.length (by rw [hd1]; simp [Mw.m])
  have hr3 : m.r ≤ 3 := (hk1 HK.out).2.2.1
  have hss : ∀ z ∈ Mm.fl m.ss, 0 ≤ z ∧ z ≤ 1048576 := fun z hz => HBD.out z (by rw [hd1]; exact List.mem_append_right _ hz)
  have HSS := hide hss
  have hl4 := encs_small (l := [m.k, m.e]) (by intro z hz; simp at hz; have := HK.out; omega)
  have hl5 := encs_small (l := [m.r, m.n, (m.ss.length : Int)]) (by intro z hz; simp at hz; omega)
  simp only [List.length_cons, List.length_nil] at hl4 hl5
  have HL4 := hide hl4
  have HL5 := hide hl5
  have C5 := hide (put_lit [m.r, m.n, (m.ss.length : Int)] 3 #[.int .i64 m.r, .int .i64 m.n, .int .i64 m.ss.length] (w.heap.size + 1) _ _ w4 w5 hw5 rfl rfl (by omega) (by intro z hz; simp at hz; omega) B4.out (by rw [List.nil_append]; omega))
  have hwr : IntKind.i64.wrap m.r = m.r := wrap_i64_small _ (by omega) (by omega)
  obtain ⟨P0, hP0⟩ : ∃ l, [] ++ Pm.encs [m.k, m.e] ++ Pm.encs [m.r, m.n, (m.ss.length : Int)] = l := ⟨_, rfl⟩
  rw [hP0] at C5
  have HP0 := hide hP0
  have hPl : P0.length ≤ 50 := by rw [← hP0, List.nil_append, List.length_append]; omega
  clear hd1 hss hk1 hk2 hk3 hl4 hl5 hP0
  go_wp2_with fail
  refine C5.out.mono ?_
  rintro E w6 ⟨rfl, v6, bs6⟩
  have B6 := hide bs6.buf
  have bel46 : Below (w.heap.size + 1) w4 w6 := bs6.below B4.out
  have bel26 := bel24.trans bel46
  have sz6 := bel26.size
  have A6 := hide (A2.out.under bel26 (by omega))
  have RW : Hid (0 < m.ss.length → ∃ b o c, (.slice ao m.ss.length cap : Value) = .slice (some ⟨b, o, none⟩) m.ss.length c ∧ b < w.heap.size ∧ ∀ (i : Nat) (s : Sm.S), m.ss[i]? = some s → w.cell? ⟨b, o + i * 2, none⟩ = some (.int .i64 s.1) ∧ w.cell? ⟨b, o + i * 2 + 1, none⟩ = some (.int .i64 s.2)) := hide fun h => by
    obtain ⟨b, o, c, h1, _, _, h2, h3⟩ := rowS_full HI.out.s h
    exact ⟨b, o, c, by rw [← HVS.out]; exact h1, h2, h3⟩
  clear c0 c1 c2 c3 c4 c5 c6 c7 bs6 hw5 C5 bel46 B4 A4
  obtain ⟨c0, c1, c2, c3, c4, c5, c6, c7⟩ := HE.out _ A6.out
  have HT0 : Hid (Buf (w.heap.size + 1) w6 v6 (P0 ++ Pm.encs (Mm.fl (m.ss.take 0)))) := hide (by simpa [Mm.fl, Pm.encs] using B6.out)
  generalize hn' : m.ss.length = n at *
  have HN := hide hn'
  clear hn'
  go_wp2
  go_loopw [37] (fun i wr => ∃ (k : Nat) (v : Value), k ≤ n ∧ i = .int .i64 k ∧ Below (w.heap.size + 1) w2 wr ∧ Hid (Buf (w.heap.size + 1) wr v (P0 ++ Pm.encs (Mm.fl (m.ss.take k))))) (fun i _ => n - (intOf i).toNat)
  case atStart => exact ⟨0, v6, by omega, rfl, bel26, HT0⟩
  case round =>
    obtain ⟨k, v, hk, rfl, bel, HT⟩ := hrel
    have sz := bel.size
    have belW : Below w.heap.size w wr := bel02.trans (bel.mono (by omega))
    by_cases hlt : k < n
    · obtain ⟨b1, o1, x1, hv1, hB1, hc1⟩ := RW.out (by omega)
      simp only [Value.slice.injEq, true_and] at hv1
      obtain ⟨rfl, rfl⟩ := hv1
      obtain ⟨s, hs'⟩ := at_of (l := m.ss) (k := k) (by have := HN.out; omega)
      obtain ⟨f0, f1⟩ := hc1 k s hs'
      have d0 := (belW.cell (p := ⟨b1, o1 + k * 2, none⟩) hB1).trans f0
      have d1 := (belW.cell (p := ⟨b1, o1 + k * 2 + 1, none⟩) hB1).trans f1
      obtain ⟨hb1, hb2⟩ := fl_mem hs' HSS.out
      have hlt' : (k : Int) < n := by omega
      obtain ⟨V, hV, hV2, szV, belV, _, y0, y1⟩ := new_two wr 66 (.int .i64 0) (.int .i64 0) (.int .i64 s.1) (.int .i64 s.2)
      have BV := HT.out.below belV
      obtain ⟨U, hU, szU, belU, _⟩ := blk_step V #[.int .i64 s.1, .int .i64 s.2] 3
      have hfb := fl_bound (k := k) HSS.out
      rw [HN.out] at hfb
      have CU := hide (put_lit [s.1, s.2] 2 #[.int .i64 s.1, .int .i64 s.2] (w.heap.size + 1) _ _ V U hU rfl rfl (by omega) (by intro z hz; simp at hz; omega) BV (by rw [List.length_append]; omega))
      have HBV := hide BV
      have HF := hide (fl_snoc hs')
      have belWV : Below (w.heap.size + 1) w2 V := bel.trans (belV.mono (by omega))
      rw [szV] at CU
      clear hs' f0 f1 hc1 hfb BV belU belV szU
      go_wp2_with fail
      refine CU.out.mono ?_
      rintro E w7 ⟨rfl, v7, bs7⟩
      have bel7 : Below (w.heap.size + 1) w2 w7 := belWV.trans (bs7.below HBV.out)
      have HT7 : Hid (Buf (w.heap.size + 1) w7 v7 (P0 ++ Pm.encs (Mm.fl (m.ss.take (k + 1))))) := hide (by
        have := bs7.buf
        rw [HF.out, Pm.encs_app, ← List.append_assoc]
        exact this)
      clear bs7 CU HBV belWV
      go_wp2
      go_roundw
      case rel => exact ⟨k + 1, v7, by omega, by go_num, bel7, HT7⟩
      case measure => simp [intOf]; omega
    · have hlt' : ¬ (k : Int) < n := by omega
      have own := HT.out.own.rebase (base' := w.heap.size) (by omega)
      rw [List.take_of_length_le (by rw [HN.out]; omega)] at own
      have hres : P0 ++ Pm.encs (Mm.fl m.ss) = Mm.enc m.m := by
        unfold Mm.enc
        rw [Mm.hd_1 (show m.m.k = 1 from HK.out)]
        have : m.m.cs = [] := by
          rcases HOK.out.2.2 with ⟨_, h⟩ | ⟨k, _⟩ | ⟨k, _⟩
          · exact h.2.2.2.2.2.2
          · have := HK.out; have : m.k = 2 := k; omega
          · have := HK.out; have : m.k = 3 := k; omega
        rw [this, ← HP0.out, ← HN.out]
        simp [Pm.encs, Fm.cat, Mw.m]
      rw [hres] at own
      have cb : wr.cell? ⟨w.heap.size + 1, 0, none⟩ = some v := blk_cell HT.out.box 0 rfl
      obtain ⟨a6, l6, n6, hv6⟩ := own.is.form
      subst hv6
      clear hres HT
      go_wp2
      go_ret
      exact ⟨_, rfl, own, belW⟩

end Go.Proofs.Ytabfihicdphjeaa

/- The contracts of write (a ship) and Encode (the program's). -/
namespace Go.Proofs.Ytabfihicdphjeaa
open Go.RowKit
set_option linter.unusedVariables false

set_option maxRecDepth 100000 in
set_option maxHeartbeats 2000000 in
theorem write_2 (m : Mw) (w : World) (hi : IsM w m) (hf : FitM m) (hok : Mm.Ok m.m) (hk : m.k = 2) :
    Calls Try.prog 46 #[mv m] w fun E w' => ∃ vb, E = .returned vb ∧ Own .u8 5 w.heap.size w' vb (Mm.enc m.m) ∧ Below w.heap.size w w' := by
  obtain ⟨hbd, _, _, _, _, _, hk1, hk2, hk3⟩ := Mm.hd_ok hok
  have e1 : 1 ≤ m.e := hok.1
  have e2 : m.e ≤ 1048576 := hok.2.1
  obtain ⟨ao, cap, hvs, _, _⟩ := hi.s.shape
  obtain ⟨ao2, cap2, hvc, _, _⟩ := hi.c.1.shape
  rw [mv_eq hvs hvc]
  obtain ⟨w1, hw1, sz1, bel1, hA⟩ := newm' w m hvs hvc
  obtain ⟨w2, hw2, sz2, bel2, hB⟩ := blk_step w1 #[.slice none 0 0] 50
  rw [sz1] at hB
  have A2 : Hid (MAt w2 w.heap.size m) := hide (hA.below bel2)
  have B2 : Hid (Buf (w.heap.size + 1) w2 (.slice none 0 0) []) := hide ⟨hB, Own.nil _ _ _ _⟩
  have bel02 : Below w.heap.size w w2 := bel1.trans (bel2.mono (by omega))
  have HE : Hid (∀ W, MAt W w.heap.size m → Ei W w.heap.size (.int .i64 m.k) (.int .i64 m.e) (.int .u8 m.r) (.int .i64 m.n) (.slice ao m.ss.length cap) (.int .i64 m.f) (.int .i64 m.p) (.slice ao2 m.cs.length cap2)) := hide fun W k => k.ei' hvs hvc
  obtain ⟨c0, c1, c2, c3, c4, c5, c6, c7⟩ := HE.out _ A2.out
  have HI := hide hi
  have HOK := hide hok
  have HBD := hide hbd
  have HVS := hide hvs
  have HVC := hide hvc
  obtain ⟨w3, hw3, sz3, bel3, _⟩ := blk_step w2 #[.int .i64 m.k, .int .i64 m.e] 3
  have C3 := hide (put_lit [m.k, m.e] 2 #[.int .i64 m.k, .int .i64 m.e] (w.heap.size + 1) _ [] w2 w3 hw3 rfl rfl (by omega) (by intro z hz; simp at hz; omega) B2.out (by simp))
  have hmf : ∀ (fn : Fn) (first cap : Array Value) (w : World), (Instr.makeFunc fn first cap).run Try.prog w = .ok (.func fn first cap) w := fun _ _ _ _ => rfl
  have HK := hide hk
  have hq1 : (m.k == 1) = false := by simp; omega
  have hq2 : (m.k == 2) = true := by simp [hk]
  rw [sz2, sz1] at C3
  clear hi hok hbd hvs hvc hA hB bel1 bel2 bel3 hk
  go_enter Try.func46, Try.ntmps46
  go_wp2_with fail
  refine C3.out.mono ?_
  rintro E w4 ⟨rfl, v4, bs4⟩
  have B4 := hide bs4.buf
  have bel24 : Below (w.heap.size + 1) w2 w4 := bs4.below B2.out
  have sz4 := bs4.out.size
  have A4 := hide (A2.out.under bel24 (by omega))
  clear c0 c1 c2 c3 c4 c5 c6 c7 bs4 hw1 hw2 hw3 C3
  obtain ⟨c0, c1, c2, c3, c4, c5, c6, c7⟩ := HE.out _ A4.out
  obtain ⟨w5, hw5, sz5, bel5, _⟩ := blk_step w4 #[.int .i64 m.f, .int .i64 m.p, .int .i64 m.cs.length] 3
  have hd2 := Mm.hd_2 (show m.m.k = 2 from HK.out)
  have hcl : m.m.cs.length = m.cs.length := cvs_length _
  have hff : 0 ≤ m.f ∧ m.f ≤ 1048576 := HBD.out m.f (by rw [hd2]; simp [Mw.m])
  have hpp : 0 ≤ m.p ∧ m.p ≤ 1048576 := HBD.out m.p (by rw [hd2]; simp [Mw.m])
  have hs : m.cs.length ≤ 4 := by have := (hk2 HK.out).2.2.2.2; omega
  have hcc := Mm.ok_cs HOK.out
  have HCC : Hid (∀ c ∈ cvs m.cs, Cm.chk c.e c.n c.l = 0) := hide hcc
  have hl4 := encs_small (l := [m.k, m.e]) (by intro z hz; simp at hz; have := HK.out; omega)
  have hl5 := encs_small (l := [m.f, m.p, (m.cs.length : Int)]) (by intro z hz; simp at hz; omega)
  simp only [List.length_cons, List.length_nil] at hl4 hl5
  have C5 := hide (put_lit [m.f, m.p, (m.cs.length : Int)] 3 #[.int .i64 m.f, .int .i64 m.p, .int .i64 m.cs.length] (w.heap.size + 1) _ _ w4 w5 hw5 rfl rfl (by omega) (by intro z hz; simp at hz; omega) B4.out (by rw [List.nil_append]; omega))
  obtain ⟨P0, hP0⟩ : ∃ l, [] ++ Pm.encs [m.k, m.e] ++ Pm.encs [m.f, m.p, (m.cs.length : Int)] = l := ⟨_, rfl⟩
  rw [hP0] at C5
  have HP0 := hide hP0
  have hPl : P0.length ≤ 50 := by rw [← hP0, List.nil_append, List.length_append]; omega
  have HF := hide hf.fc
  clear hd2 hcc hk1 hk2 hk3 hl4 hl5 hP0 hf hcl
  go_wp2_with fail
  refine C5.out.mono ?_
  rintro E w6 ⟨rfl, v6, bs6⟩
  have B6 := hide bs6.buf
  have bel46 : Below (w.heap.size + 1) w4 w6 := bs6.below B4.out
  have bel26 := bel24.trans bel46
  have sz6 := bel26.size
  have A6 := hide (A2.out.under bel26 (by omega))
  have RW : Hid (0 < m.cs.length → ∃ b1 o1 c1, (.slice ao2 m.cs.length cap2 : Value) = .slice (some ⟨b1, o1, none⟩) m.cs.length c1 ∧ b1 < w.heap.size ∧ ∀ i c, m.cs[i]? = some c → w.cell? ⟨b1, o1 + i * 3, none⟩ = some (.int .i64 c.e) ∧ w.cell? ⟨b1, o1 + i * 3 + 1, none⟩ = some (.int .i64 c.n) ∧ w.cell? ⟨b1, o1 + i * 3 + 2, none⟩ = some c.v) := hide (by rw [← HVC.out]; exact isC_cells HI.out.c)
  clear c0 c1 c2 c3 c4 c5 c6 c7 bs6 hw5 C5 bel46 B4 A4
  obtain ⟨c0, c1, c2, c3, c4, c5, c6, c7⟩ := HE.out _ A6.out
  have HT0 : Hid (Buf (w.heap.size + 1) w6 v6 (P0 ++ Fm.cat (((cvs m.cs).take 0).map Mm.cb))) := hide (by simpa [Fm.cat] using B6.out)
  generalize hn' : m.cs.length = n at *
  have HN := hide hn'
  clear hn'
  go_wp2
  go_loopw [64] (fun i wr => ∃ (k : Nat) (v : Value), k ≤ n ∧ i = .int .i64 k ∧ Below (w.heap.size + 1) w2 wr ∧ Hid (Buf (w.heap.size + 1) wr v (P0 ++ Fm.cat (((cvs m.cs).take k).map Mm.cb)))) (fun i _ => n - (intOf i).toNat)
  case atStart => exact ⟨0, v6, by omega, rfl, bel26, HT0⟩
  case round =>
    obtain ⟨k, v, hk, rfl, bel, HT⟩ := hrel
    have sz := bel.size
    have belW : Below w.heap.size w wr := bel02.trans (bel.mono (by omega))
    by_cases hlt : k < n
    · obtain ⟨b1, o1, x1, hv1, hB1, hc1⟩ := RW.out (by omega)
      simp only [Value.slice.injEq, true_and] at hv1
      obtain ⟨rfl, rfl⟩ := hv1
      obtain ⟨s, hs'⟩ := at_of (l := m.cs) (k := k) (by have := HN.out; omega)
      have hmem := List.mem_of_getElem? hs'
      obtain ⟨d0, d1, d2⟩ := row_at hc1 belW hB1 hs'
      have hcg : (cvs m.cs)[k]? = some s.c := by rw [cvs_get, hs']; rfl
      have hck : Cm.chk s.e s.n s.l = 0 := HCC.out s.c (List.mem_of_getElem? hcg)
      have hlt' : (k : Int) < n := by omega
      have io := (HI.out.c.2 s hmem).1.below belW
      obtain ⟨hfo, hlo⟩ := HF.out s hmem
      obtain ⟨ga, ea, hvc', _, _⟩ := io.shape
      obtain ⟨V, hV, hV2, szV, belV, _, y0, y1, y2⟩ := new_step wr 46 (.int .i64 0) (.int .i64 0) (.slice none 0 0) (.int .i64 s.e) (.int .i64 s.n) s.v
      have HBV := hide (HT.out.below belV)
      have CU := hide (cenc_any s.e s.n s.v s.l V (io.below belV) hfo (by omega))
      rw [hck, Cm.out_ok hck] at CU
      unfold cmv at CU
      rw [hvc'] at d2 hV hV2 y2 CU
      have belWV : Below (w.heap.size + 1) w2 V := bel.trans (belV.mono (by omega))
      have hcs : (Fm.cat (((cvs m.cs).take k).map Mm.cb)).length ≤ 2000 := by
        have h1 := cat_small (l := (cvs m.cs).take k) (fun c hc => HCC.out c (List.mem_of_mem_take hc))
        have h2 : ((cvs m.cs).take k).length ≤ (cvs m.cs).length := List.length_take_le' _ _
        rw [cvs_length, HN.out] at h2
        omega
      have hel : (Cm.encC s.e s.n s.l).length ≤ 430 := Cm.encC_small hck
      have HF2 := hide (cat_take hcg)
      have hcb : Mm.cb s.c = Cm.encC s.e s.n s.l := rfl
      rw [hcb] at HF2
      generalize Cm.encC s.e s.n s.l = whole at *
      generalize hQ : Fm.cat (((cvs m.cs).take k).map Mm.cb) = Q at *
      have HQ := hide hQ
      clear hs' hmem hc1 belV hvc' hck hcb io hcg hQ
      go_wp2_with fail
      refine CU.out.mono ?_
      rintro E w7 ⟨vw, rfl, own7, bel7⟩
      have sz7 := bel7.size
      have B7 := hide (HBV.out.below bel7)
      have bel27 : Below (w.heap.size + 1) w2 w7 := belWV.trans (bel7.mono (by omega))
      obtain ⟨aw, cw, hvw, _, _⟩ := own7.is.shape
      obtain ⟨U, hU, szU, belU, _⟩ := blk_step w7 #[.int .i64 whole.length] 3
      have C8 := hide (put_lit [(whole.length : Int)] 1 #[.int .i64 whole.length] (w.heap.size + 1) _ _ w7 U hU rfl rfl (by omega) (by intro z hz; simp at hz; omega) B7.out (by rw [List.length_append]; omega))
      have hwb : Hid (∀ b, vw.ownBlock = some b → b ≠ w.heap.size + 1 ∧ v.ownBlock ≠ some b ∧ b < w7.heap.size) := hide fun b hb => by
        have h1 := own7.2.lt b hb
        have h2 := HBV.out.lt
        refine ⟨by omega, fun e => ?_, h1.2⟩
        have := (HBV.out.own.2.lt b e).2
        omega
      have O7 := hide own7
      subst hvw
      clear CU own7 y0 y1 y2 d0 d1 d2 hV hV2 bel7 belU HBV belWV
      go_wp2_with fail
      refine C8.out.mono ?_
      rintro E w9 ⟨rfl, v9, bs9⟩
      have B9 := hide bs9.buf
      have bel29 : Below (w.heap.size + 1) w2 w9 := bel27.trans (bs9.below B7.out)
      have I9 : Is .u8 w9 (.slice aw whole.length cw) whole := O7.out.is.agree fun b hb => by
        obtain ⟨h1, h2, h3⟩ := hwb.out b hb
        exact bs9.stays h3 h1 h2
      have c9 : w9.cell? ⟨w.heap.size + 1, 0, none⟩ = some v9 := blk_cell B9.out.box 0 rfl
      have g9 := B9.out.lt
      have hsz := Vm.sz_le10 (x := whole.length) (by omega)
      unfold Vm.sz at hsz
      have X9 : Hid (∀ ty, ∃ v' w', (Builtin.append_ #[50, 50] ty #[v9, .slice aw whole.length cw]).run Try.prog w9 = .ok v' w' ∧ Hid (Own .u8 5 (w.heap.size + 1 + 1) w' v' (P0 ++ Q ++ Pm.encs [(whole.length : Int)] ++ whole) ∧ w9.grownBy w' v9.ownBlock ∧ (v'.ownBlock = v9.ownBlock ∨ v'.ownBlock = some w9.heap.size))) := hide fun ty => by
        obtain ⟨v', w', hr, hx⟩ := run_append_is_at (P := Try.prog) (w := w9) 50 ty .u8 5 (w.heap.size + 1 + 1) 1 Try.underlying50 Try.info5 (by decide) v9 _ B9.out.own _ whole I9 (by simp [Pm.encs]; omega) (by omega)
        exact ⟨v', w', hr, hide hx⟩
      clear bs9 C8 hU hwb O7 B7 I9
      go_wp2_with (at_builtin; refine wpList_append_at rfl (.tmp 78) (.tmp 79) 50 rfl _ _ rfl rfl X9.out ?_)
      intro v10 w10 H10
      obtain ⟨own10, gr10, at10⟩ := H10.out
      have own10 : Own .u8 5 (w.heap.size + 1 + 1) w10 v10 (P0 ++ Q ++ Pm.encs [(whole.length : Int)] ++ whole) := by rw [List.append_assoc, List.append_assoc]; exact own10
      obtain ⟨hbs, cb10, fr10⟩ := bs_put B9.out (Below.refl _ _) own10 gr10 at10
      have bel210 : Below (w.heap.size + 1) w2 (w10.setCell ⟨w.heap.size + 1, 0, none⟩ v10) := bel29.trans (hbs.below B9.out)
      have HT10 : Hid (Buf (w.heap.size + 1) (w10.setCell ⟨w.heap.size + 1, 0, none⟩ v10) v10 (P0 ++ Fm.cat (((cvs m.cs).take (k + 1)).map Mm.cb))) := hide (by
        have := hbs.buf
        rw [HF2.out]
        have e : P0 ++ (Q ++ Fm.frm whole) = P0 ++ Q ++ Pm.encs [(whole.length : Int)] ++ whole := by simp [Pm.encs, Fm.frm]
        rw [e]
        exact this)
      obtain ⟨a10, l10, n10, hv10⟩ := own10.is.form
      subst hv10
      clear hbs own10 gr10 at10 X9 B9 bel27 bel29 H10
      go_wp2
      go_roundw
      case rel => exact ⟨k + 1, _, by omega, by go_num, bel210, HT10⟩
      case measure => simp [intOf]; omega
    · have hlt' : ¬ (k : Int) < n := by omega
      have own := HT.out.own.rebase (base' := w.heap.size) (by omega)
      rw [List.take_of_length_le (by rw [cvs_length, HN.out]; omega)] at own
      have hres : P0 ++ Fm.cat ((cvs m.cs).map Mm.cb) = Mm.enc m.m := by
        unfold Mm.enc
        rw [Mm.hd_2 (show m.m.k = 2 from HK.out), ← HP0.out, ← HN.out]
        simp [Pm.encs, Mw.m, cvs_length]
      rw [hres] at own
      have cb : wr.cell? ⟨w.heap.size + 1, 0, none⟩ = some v := blk_cell HT.out.box 0 rfl
      obtain ⟨a6, l6, n6, hv6⟩ := own.is.form
      subst hv6
      clear hres HT
      go_wp2
      go_ret
      exact ⟨_, rfl, own, belW⟩

theorem write_any (m : Mw) (w : World) (hi : IsM w m) (hf : FitM m) (hok : Mm.Ok m.m) :
    Calls Try.prog 46 #[mv m] w fun E w' => ∃ vb, E = .returned vb ∧ Own .u8 5 w.heap.size w' vb (Mm.enc m.m) ∧ Below w.heap.size w w' := by
  rcases hok.2.2 with ⟨k, _⟩ | ⟨k, _⟩ | ⟨k, _⟩
  · exact write_1 m w hi hf hok k
  · exact write_2 m w hi hf hok k
  · exact write_3 m w hi hf hok k

/-- What Encode answers. -/
def EncR (m : Mm.Msg) (bs : List Int) (c : Int) : Prop := (c = 0 ∧ Mm.Ok m ∧ bs = Mm.enc m) ∨ (c = 2 ∧ ¬ Mm.Ok m ∧ bs = [])

theorem encR_is (m : Mm.Msg) : ∃ bs c, EncR m bs c := by
  by_cases h : Mm.Ok m
  · exact ⟨_, _, .inl ⟨rfl, h, rfl⟩⟩
  · exact ⟨_, _, .inr ⟨rfl, h, rfl⟩⟩

theorem encR_ck {m : Mm.Msg} {bs : List Int} {c : Int} (h : EncR m bs c) : Mm.Ck m c := by
  rcases h with ⟨rfl, h, _⟩ | ⟨rfl, h, _⟩
  · exact .inl ⟨rfl, h⟩
  · exact .inr ⟨rfl, h⟩

set_option maxHeartbeats 1000000 in
theorem mencode_any (m : Mw) (bs : List Int) (c : Int) (w : World) (hi : IsM w m) (hf : FitM m) (hr : EncR m.m bs c) :
    Calls Try.prog 24 #[mv m] w fun E w' => ∃ vb, E = .returned (.tuple #[vb, .int .i64 c]) ∧ Own .u8 5 w.heap.size w' vb bs ∧ Below w.heap.size w w' := by
  have HR := hide hr
  unfold mv
  obtain ⟨w1, hw1, sz1, bel1, hA⟩ := newm w m
  have A1 := hide hA
  obtain ⟨c0, c1, c2, c3, c4, c5, c6, c7⟩ := hA.ei
  clear hA hr
  go_enter Try.func24, Try.ntmps24
  go_wp2_with fail
  refine (mcheck_any m c w1 (hi.below bel1) hf (encR_ck HR.out)).mono ?_
  rintro E w2 ⟨rfl, bel2⟩
  have sz2 := bel2.size
  have bel02 := bel1.trans (bel2.mono (by omega))
  clear c0 c1 c2 c3 c4 c5 c6 c7 hw1
  rcases HR.out with ⟨hc, hok, hbs⟩ | ⟨hc, hok, hbs⟩
  · subst hc
    have HBS := hide hbs
    clear hbs
    obtain ⟨c0, c1, c2, c3, c4, c5, c6, c7⟩ := (A1.out.below bel2).ei
    go_wp2_with fail
    refine (write_any m w2 (hi.below bel02) hf hok).mono ?_
    rintro E w3 ⟨vb, rfl, own3, bel3⟩
    have bel03 := bel02.trans (bel3.mono (by omega))
    rw [← HBS.out] at own3
    have own3' := own3.rebase (base' := w.heap.size) (by omega)
    clear own3
    go_wp2
    refine bodyPost_ret (v := .tuple #[vb, .int .i64 0]) (by simp [results, Try.results24, go_sem]) rfl ?_
    exact ⟨_, rfl, own3', bel03⟩
  · subst hc hbs
    clear hok
    go_wp2
    refine bodyPost_ret (v := .tuple #[.slice none 0 0, .int .i64 2]) (by simp [results, Try.results24, go_sem]) rfl ?_
    exact ⟨_, rfl, Own.nil _ _ _ _, bel02⟩

end Go.Proofs.Ytabfihicdphjeaa
