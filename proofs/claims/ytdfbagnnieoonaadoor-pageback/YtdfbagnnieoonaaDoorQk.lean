/- The contract of the document's Decode. -/
import Derived.Test.YtdfbagnnieoonaaDoorQj
import Derived.Test.YtdfbagnnieoonaaDoorRdn
import Derived.Test.YtdfbagnnieoonaaDoorQf
namespace Go.Proofs.YtdfbagnnieoonaaDoor
open Go.RowKit
set_option linter.unusedVariables false

/-- The reader has read k numbers, or it went wrong and the bytes are no page's. -/
def RS (bs : List Int) (x : Pm.Pg) (k a : Nat) (bad : Bool) : Prop :=
  (bad = true ∧ Pm.Dc bs Pm.no 5) ∨ (bad = false ∧ Pm.encs ((Pm.nums x).take k) <+: bs ∧ a = (Pm.encs ((Pm.nums x).take k)).length ∧ Up x k)

theorem RS.next {bs : List Int} {x y : Pm.Pg} {k a a' u m : Nat} {bad bad' : Bool} (h : RS bs x k a bad) (s : SStep bs m a bad u a' bad') (hk : k < 6) (ht : (Pm.nums y).take k = (Pm.nums x).take k) (hg : (Pm.nums y).getD k 0 = u) (hm : mst.getD k 0 = m) : RS bs y (k + 1) a' bad' := by
  rcases h with ⟨rfl, hd⟩ | ⟨rfl, h1, h2, h3⟩
  · rcases s with ⟨_, rfl, _⟩ | ⟨h, _⟩ | ⟨h, _⟩
    · exact .inl ⟨rfl, hd⟩
    · cases h
    · cases h
  · rcases s with ⟨h, _⟩ | ⟨_, rfl, _, _, hn⟩ | ⟨_, rfl, hu, hp, rfl⟩
    · cases h
    · rw [h2] at hn
      exact .inl ⟨rfl, Pm.dc_stop hk (by rw [List.length_take]; simp [Pm.nums]; omega) (up_take h3 (by omega)) h1 (fun z hz => by rw [← hm]; exact ok_mst hz k hk) hn⟩
    · have e := encs_take (Pm.nums y) k (by simp [Pm.nums]; omega)
      rw [ht, hg, Int.toNat_natCast] at e
      refine .inr ⟨rfl, ?_, ?_, ?_⟩
      · rw [← e]
        rw [h2] at hp
        exact Fm.pre_drop h1 hp
      · rw [← e, List.length_append, ← h2]; rfl
      · have hb : Up y k := fun i hi => by
          have := h3 i hi
          have e2 : (Pm.nums y).getD i 0 = (Pm.nums x).getD i 0 := by
            have q := congrArg (fun l => l.getD i 0) ht
            simpa [List.getD_eq_getElem?_getD, List.getElem?_take, hi] using q
          rw [e2]
          exact this
        exact hb.next (by rw [hg]; omega) (by rw [hg, hm]; omega)

theorem RS.done {bs : List Int} {x : Pm.Pg} {a : Nat} {bad : Bool} (h : RS bs x 6 a bad) : ((!bad && decide (a = bs.length)) = true → Pm.Ok x → Pm.Dc bs x 0) ∧ ((!bad && decide (a = bs.length)) = true → ¬ Pm.Ok x → Pm.Dc bs Pm.no 5) ∧ ((!bad && decide (a = bs.length)) = false → Pm.Dc bs Pm.no 5) := by
  rcases h with ⟨rfl, hd⟩ | ⟨rfl, h1, h2, h3⟩
  · exact ⟨fun h => by simp at h, fun h => by simp at h, fun _ => hd⟩
  · have q := Pm.dc_six (x := x) (bs := bs) (up_take h3 (by omega)) h1
    have e : a = (Pm.enc x).length := h2
    refine ⟨fun h ho => q.1 ho ?_, fun _ ho => q.2 (.inl ho), fun h => q.2 (.inr ?_)⟩
    · simp at h; omega
    · simp at h; omega

theorem ss_le {bs : List Int} {most a u a' : Nat} {bad bad' : Bool} (h : SStep bs most a bad u a' bad') : u ≤ most := by
  rcases h with ⟨_, _, h, _⟩ | ⟨_, _, h, _⟩ | ⟨_, _, h, _⟩ <;> omega

set_option maxRecDepth 100000 in
set_option maxHeartbeats 4000000 in
theorem decodeR_any (vb : Value) (bs : List Int) (w : World) (hb : Is .u8 w vb bs) (hl : bs.length ≤ 150000000000000) :
    Calls Tryd.prog 21 #[vb] w fun E w' => ∃ (y : Pm.Pg) (e : Int), E = .returned (.tuple #[vp y, .int .i64 e]) ∧ Hid (Pm.Dc bs y e) ∧ FitP y ∧ Below w.heap.size w w' := by
  unfold vp
  obtain ⟨ao, cap, rfl, _, _⟩ := hb.shape
  obtain ⟨w1, hw1, sz1, bel1, hB⟩ := blk_step w #[.int .i64 0, .int .u8 0, .int .i64 0, .int .u8 0, .int .i64 0, .int .i64 0] 25
  obtain ⟨w2, hw2, sz2, bel2, hG⟩ := blk_step w1 #[.slice ao bs.length cap, .int .i64 0, .bool false] 63
  rw [sz1] at hG
  have bel02 : Below w.heap.size w w2 := bel1.trans (bel2.mono (by omega))
  have r0 : Rdr w w2 (w.heap.size + 1) (.slice ao bs.length cap) bs 0 false := ⟨hb, by omega, bel02, hG, by omega⟩
  have H0 := hide ((bel2.block w.heap.size (by omega)).trans hB)
  have RS0 : Hid (RS bs Pm.no 0 0 false) := .inr ⟨rfl, by simp [Pm.encs], by simp [Pm.encs], fun i hi => by omega⟩
  have C0 := hide (rsmall_any w w2 (w.heap.size + 1) _ bs 0 false 1048576 r0 hl (by omega))
  clear hB hG bel1 bel2 bel02 r0 hb
  go_enter Tryd.func21, Tryd.ntmps21
  go_wp2_with fail
  refine C0.out.mono ?_
  rintro E w3 ⟨u0, a1, b1, rfl, r1, gr1, s1⟩
  have sz3 := gr1.size
  have H1 := hide ((gr1.block w.heap.size (by omega) (by simp)).trans H0.out)
  have hu0 := ss_le s1
  have RS1 : Hid (RS bs ⟨(u0 : Int), 0, 0, 0, 0, 0⟩ 1 a1 b1) := RS0.out.next s1 (by omega) rfl rfl rfl
  have C1 := hide (rsmall_any w w3 (w.heap.size + 1) _ bs a1 b1 3 r1 hl (by omega))
  clear C0 H0 RS0 r1 gr1 s1
  go_wp2_with fail
  refine C1.out.mono ?_
  rintro E w4 ⟨u1, a2, b2, rfl, r2, gr2, s2⟩
  have sz4 := gr2.size
  have H2 := hide ((gr2.block w.heap.size (by omega) (by simp)).trans H1.out)
  have hu1 := ss_le s2
  have RS2 : Hid (RS bs ⟨(u0 : Int), (u1 : Int), 0, 0, 0, 0⟩ 2 a2 b2) := RS1.out.next s2 (by omega) rfl rfl rfl
  have wr1 := wrap_i8 (u1 : Int) (by omega) (by omega)
  have C2 := hide (rsmall_any w w4 (w.heap.size + 1) _ bs a2 b2 1048576 r2 hl (by omega))
  clear C1 H1 RS1 r2 gr2 s2
  go_wp2_with fail
  refine C2.out.mono ?_
  rintro E w5 ⟨u2, a3, b3, rfl, r3, gr3, s3⟩
  have sz5 := gr3.size
  have H3 := hide ((gr3.block w.heap.size (by omega) (by simp)).trans H2.out)
  have hu2 := ss_le s3
  have RS3 : Hid (RS bs ⟨(u0 : Int), (u1 : Int), (u2 : Int), 0, 0, 0⟩ 3 a3 b3) := RS2.out.next s3 (by omega) rfl rfl rfl
  have C3 := hide (rsmall_any w w5 (w.heap.size + 1) _ bs a3 b3 4 r3 hl (by omega))
  clear C2 H2 RS2 r3 gr3 s3
  go_wp2_with fail
  refine C3.out.mono ?_
  rintro E w6 ⟨u3, a4, b4, rfl, r4, gr4, s4⟩
  have sz6 := gr4.size
  have H4 := hide ((gr4.block w.heap.size (by omega) (by simp)).trans H3.out)
  have hu3 := ss_le s4
  have RS4 : Hid (RS bs ⟨(u0 : Int), (u1 : Int), (u2 : Int), (u3 : Int), 0, 0⟩ 4 a4 b4) := RS3.out.next s4 (by omega) rfl rfl rfl
  have wr3 := wrap_i8 (u3 : Int) (by omega) (by omega)
  have C4 := hide (rsmall_any w w6 (w.heap.size + 1) _ bs a4 b4 1048576 r4 hl (by omega))
  clear C3 H3 RS3 r4 gr4 s4
  go_wp2_with fail
  refine C4.out.mono ?_
  rintro E w7 ⟨u4, a5, b5, rfl, r5, gr5, s5⟩
  have sz7 := gr5.size
  have H5 := hide ((gr5.block w.heap.size (by omega) (by simp)).trans H4.out)
  have hu4 := ss_le s5
  have RS5 : Hid (RS bs ⟨(u0 : Int), (u1 : Int), (u2 : Int), (u3 : Int), (u4 : Int), 0⟩ 5 a5 b5) := RS4.out.next s5 (by omega) rfl rfl rfl
  have C5 := hide (rsmall_any w w7 (w.heap.size + 1) _ bs a5 b5 1073741824 r5 hl (by omega))
  clear C4 H4 RS4 r5 gr5 s5
  go_wp2_with fail
  refine C5.out.mono ?_
  rintro E w8 ⟨u5, a6, b6, rfl, r6, gr6, s6⟩
  have sz8 := gr6.size
  have H6 := hide ((gr6.block w.heap.size (by omega) (by simp)).trans H5.out)
  have hu5 := ss_le s6
  have RS6 : Hid (RS bs ⟨(u0 : Int), (u1 : Int), (u2 : Int), (u3 : Int), (u4 : Int), (u5 : Int)⟩ 6 a6 b6) := RS5.out.next s6 (by omega) rfl rfl rfl
  clear C5 H5 RS5 gr6 s6
  obtain ⟨V, hV', hV, szV, belV, hP, e0, e1, e2, e3, e4, e5⟩ := new6 w8 25 (.int .i64 0) (.int .u8 0) (.int .i64 0) (.int .u8 0) (.int .i64 0) (.int .i64 0) (.int .i64 u0) (.int .u8 u1) (.int .i64 u2) (.int .u8 u3) (.int .i64 u4) (.int .i64 u5)
  have rV := r6.below belV
  have HV0 := hide ((belV.block w.heap.size (blk_lt H6.out)).trans H6.out)
  have HP := hide hP
  have hne : w.heap.size ≠ w8.heap.size := by have := blk_lt H6.out; omega
  have CD := hide (rdone_any w V (w.heap.size + 1) _ bs a6 b6 rV)
  have BV := hide rV.2.2.1
  have hfit : FitP ⟨(u0 : Int), (u1 : Int), (u2 : Int), (u3 : Int), (u4 : Int), (u5 : Int)⟩ := by unfold FitP; simp; omega
  have lt0 := blk_lt HV0.out
  have lt1 := blk_lt hP
  have DN := hide RS6.out.done
  clear hP r6 rV belV H6 RS6 e0 e1 e2 e3 e4 e5
  go_wp2_with fail
  refine CD.out.mono ?_
  rintro E w9 ⟨rfl, m9, rfl⟩
  have B9 : (V.drewN m9).heap[w.heap.size]? = _ := HV0.out
  have P9 : (V.drewN m9).heap[w8.heap.size]? = _ := HP.out
  have bel9 := below_drewN BV.out m9
  generalize V.drewN m9 = w9 at *
  cases hdn : (!b6 && decide (a6 = bs.length))
  · have HD := hide (DN.out.2.2 hdn)
    obtain ⟨z0, z1, z2, z3, z4, z5⟩ := six_of B9
    have s0 : w9.setCell ⟨w.heap.size, 0, none⟩ (.int .i64 0) = w9 := set_same B9 (j := 0) rfl
    have s1 : w9.setCell ⟨w.heap.size, 1, none⟩ (.int .u8 0) = w9 := set_same B9 (j := 1) rfl
    have s2 : w9.setCell ⟨w.heap.size, 2, none⟩ (.int .i64 0) = w9 := set_same B9 (j := 2) rfl
    have s3 : w9.setCell ⟨w.heap.size, 3, none⟩ (.int .u8 0) = w9 := set_same B9 (j := 3) rfl
    have s4 : w9.setCell ⟨w.heap.size, 4, none⟩ (.int .i64 0) = w9 := set_same B9 (j := 4) rfl
    have s5 : w9.setCell ⟨w.heap.size, 5, none⟩ (.int .i64 0) = w9 := set_same B9 (j := 5) rfl
    have f0 := blk_froz B9 0; have f1 := blk_froz B9 1; have f2 := blk_froz B9 2; have f3 := blk_froz B9 3; have f4 := blk_froz B9 4; have f5 := blk_froz B9 5
    clear hdn B9 P9 DN CD HV0 HP BV
    go_wp2
    refine bodyPost_ret (v := .tuple #[.agg #[.int .i64 0, .int .u8 0, .int .i64 0, .int .u8 0, .int .i64 0, .int .i64 0], .int .i64 5]) (by simp [results, Tryd.results21, go_sem, z0, z1, z2, z3, z4, z5]) rfl ?_
    exact ⟨Pm.no, 5, rfl, HD, fit_no, bel9⟩
  · have D1 := hide (DN.out.1 hdn)
    have D2 := hide (DN.out.2.1 hdn)
    obtain ⟨d0, d1, d2, d3, d4, d5⟩ := six_of P9
    have HB9 := hide B9
    have HP9 := hide P9
    have HF := hide hfit
    have CK := hide (checkR_any ⟨(u0 : Int), (u1 : Int), (u2 : Int), (u3 : Int), (u4 : Int), (u5 : Int)⟩ w9 hfit)
    have bl9 := blk_lt B9
    have pl9 := blk_lt P9
    clear hdn B9 P9 DN CD HV0 HP BV hfit
    go_wp2_with fail
    refine CK.out.mono ?_
    rintro E w10 ⟨rfl, bel10⟩
    have sz10 := bel10.size
    have B10 := (bel10.block _ bl9).trans HB9.out
    obtain ⟨l0, l1, l2, l3, l4, l5⟩ := six_of ((bel10.block _ pl9).trans HP9.out)
    have bel010 := bel9.trans (bel10.mono bel9.size)
    clear HB9 HP9 CK d0 d1 d2 d3 d4 d5 bel9 bel10
    by_cases ho : Pm.Ok ⟨(u0 : Int), (u1 : Int), (u2 : Int), (u3 : Int), (u4 : Int), (u5 : Int)⟩
    · rw [Pm.chk_ok ho]
      have HD := hide (D1.out ho)
      obtain ⟨Y, hY, bY, gY, ⟨q0, q1, q2, q3, q4, q5⟩, fr, ⟨z0, z1, z2, z3, z4, z5⟩⟩ := put6 B10 (.int .i64 u0) (.int .u8 u1) (.int .i64 u2) (.int .u8 u3) (.int .i64 u4) (.int .i64 u5)
      have f0 := fr 0; have f1 := fr 1; have f2 := fr 2; have f3 := fr 3; have f4 := fr 4; have f5 := fr 5
      have belY := below_put bel010 gY (by omega) (by omega)
      clear ho B10 bY gY fr bel010 D1 D2
      go_wp2
      refine bodyPost_ret (v := .tuple #[.agg #[.int .i64 u0, .int .u8 u1, .int .i64 u2, .int .u8 u3, .int .i64 u4, .int .i64 u5], .int .i64 0]) (by simp [results, Tryd.results21, go_sem, z0, z1, z2, z3, z4, z5]) rfl ?_
      exact ⟨⟨(u0 : Int), (u1 : Int), (u2 : Int), (u3 : Int), (u4 : Int), (u5 : Int)⟩, 0, rfl, HD, HF.out, belY⟩
    · rw [Pm.chk_no ho]
      have HD := hide (D2.out ho)
      obtain ⟨z0, z1, z2, z3, z4, z5⟩ := six_of B10
      have s0 : w10.setCell ⟨w.heap.size, 0, none⟩ (.int .i64 0) = w10 := set_same B10 (j := 0) rfl
      have s1 : w10.setCell ⟨w.heap.size, 1, none⟩ (.int .u8 0) = w10 := set_same B10 (j := 1) rfl
      have s2 : w10.setCell ⟨w.heap.size, 2, none⟩ (.int .i64 0) = w10 := set_same B10 (j := 2) rfl
      have s3 : w10.setCell ⟨w.heap.size, 3, none⟩ (.int .u8 0) = w10 := set_same B10 (j := 3) rfl
      have s4 : w10.setCell ⟨w.heap.size, 4, none⟩ (.int .i64 0) = w10 := set_same B10 (j := 4) rfl
      have s5 : w10.setCell ⟨w.heap.size, 5, none⟩ (.int .i64 0) = w10 := set_same B10 (j := 5) rfl
      have f0 := blk_froz B10 0; have f1 := blk_froz B10 1; have f2 := blk_froz B10 2; have f3 := blk_froz B10 3; have f4 := blk_froz B10 4; have f5 := blk_froz B10 5
      clear ho B10 D1 D2
      go_wp2
      refine bodyPost_ret (v := .tuple #[.agg #[.int .i64 0, .int .u8 0, .int .i64 0, .int .u8 0, .int .i64 0, .int .i64 0], .int .i64 5]) (by simp [results, Tryd.results21, go_sem, z0, z1, z2, z3, z4, z5]) rfl ?_
      exact ⟨Pm.no, 5, rfl, HD, fit_no, bel010⟩

end Go.Proofs.YtdfbagnnieoonaaDoor
