/- The document's Text of an act (layer 25). -/
import Derived.Test.YtdlogcdpapknaaaGreatDoorZP
import Derived.Test.YtdlogcdpapknaaaGreatDoorZQ
import Derived.Test.YtdlogcdpapknaaaGreatDoorSxw
namespace Go.Proofs.YtdlogcdpapknaaaGreatDoor
open Go.RowKit
set_option linter.unusedVariables false
set_option maxRecDepth 100000

theorem digI (x : Int) (h : 0 ≤ x ∧ x ≤ 999999999) (w : World) : Calls Tryz.prog 79 #[.int .i64 x] w (DgS (Sct.dg x.toNat) w) := by
  have := digS25 x.toNat (by omega) w
  rwa [show ((x.toNat : Nat) : Int) = x by omega] at this
theorem dg_le {x : Int} (h : 0 ≤ x ∧ x ≤ 999999999) : (Sct.dg x.toNat).length ≤ 200 := by
  have := (Sct.dg_all (n := x.toNat) (by omega)).2.2.2.1
  omega
theorem cat_jn {x t : ByteArray} {T G : List (List UInt8)} (hx : x.data.toList = Sct.jn T) (ht : t.data.toList = Sct.jn G) (h : T ≠ []) (hg : G ≠ []) : (x ++ ⟨#[32]⟩ ++ t).data.toList = Sct.jn (T ++ G) := by
  rw [jn_app _ _ h hg, ← hx, ← ht]
  simp
theorem cat_size (x t : ByteArray) : (x ++ ⟨#[32]⟩ ++ t).size = x.size + 1 + t.size := by
  rw [Lib.size_eq, Lib.size_eq, Lib.size_eq]
  simp
  omega
theorem nmA_j (k : Nat) (h : k ≠ 0) : (nmA k).data.toList = Sct.jn [Sct.nm k] := by
  show (nmA k).data.toList = Sct.nm k
  rw [nmA_l, if_neg h]
theorem nmA_z (k : Nat) (h : k < 13) : (nmA k).size ≤ 10 := by
  obtain rfl | rfl | rfl | rfl | rfl | rfl | rfl | rfl | rfl | rfl | rfl | rfl | rfl : k = 0 ∨ k = 1 ∨ k = 2 ∨ k = 3 ∨ k = 4 ∨ k = 5 ∨ k = 6 ∨ k = 7 ∨ k = 8 ∨ k = 9 ∨ k = 10 ∨ k = 11 ∨ k = 12 := by omega
  all_goals decide
theorem tret_of {w w' : World} {a : Sct.Av} {s : ByteArray} (h : s.data.toList = Sct.jn (Sct.txt a)) (hb : Below w.heap.size w w') : TRet w a (.returned (.string s)) w' := ⟨by rw [← h], hb⟩

set_option maxHeartbeats 4000000 in
theorem textR25_1 (a : Sct.Av) (v : Value) (w : World) (hok : Sct.Ok a) (h : IsO w v a.ops) (hk : a.k = 1) : Calls Tryz.prog 50 #[acv a v] w (TRet w a) := by
  obtain ⟨oa, oc, rfl, _, _⟩ := h.shape
  obtain ⟨w1, hw1, s1, b1, ab⟩ := blk_step w #[.int .i64 a.k, .int .i64 a.u, .int .i64 a.n, .int .i64 a.t, .string a.key, .slice oa a.ops.length oc] 24
  have HO := hide h
  have HK := hide hk
  have TX : Hid (Sct.txt a = Sct.nm ((1 : Nat) : Int) :: Sct.tail a) := hide (by unfold Sct.txt; rw [hk]; rfl)
  have hu : 0 ≤ a.u ∧ a.u ≤ 999999999 := by have := hok.u; omega
  have hn := hok.n
  have ht := hok.t
  have hks : a.key.size ≤ 16 := byt_kk hok.key
  have HWK : Hid ((Sct.jn [Wm.wd a.key.data.toList]).length ≤ 200) := hide (by
    have := Wm.wd_le a.key.data.toList
    rw [← Lib.size_eq] at this
    show (Wm.wd a.key.data.toList).length ≤ 200
    omega)
  have HOK := hide hok
  rw [hk] at ab hw1
  unfold acv acc
  rw [hk]
  clear h hk hok
  have Q := sx_of ab
  obtain ⟨c0, c1, c2, c3, c4, c5⟩ := Q
  go_enter Tryz.func50, Tryz.ntmps50
  go_wp2_with fail
  refine (nameR_any 1 w1 (by decide)).mono ?_
  rintro E w2 ⟨rfl, b2⟩
  have AB := (b2.block w.heap.size (by omega)).trans ab
  have BL := b1.trans (b2.mono (by omega))
  clear c0 c1 c2 c3 c4 c5 b1 b2 ab
  have Q := sx_of AB
  obtain ⟨c0, c1, c2, c3, c4, c5⟩ := Q
  have HJ0 := hide (nmA_j 1 (by decide))
  have he0z := nmA_z 1 (by decide)
  obtain ⟨e0, he0⟩ : ∃ e, nmA 1 = e := ⟨_, rfl⟩
  rw [he0] at HJ0 he0z ⊢
  clear he0
  go_wp2_with fail
  refine (shapeR_any 1 w2).mono ?_
  rintro E w3 ⟨rfl, rfl⟩
  rw [show (⟨(shp 1).toArray⟩ : ByteArray) = ⟨#[110, 111]⟩ from rfl]
  go_wp2
  refine wp_loop_rounds 3 ?_
  rw [rounds_succ]
  go_wp2_with fail
  refine (digI a.u hu w2).mono ?_
  rintro E z1 ⟨t1, rfl, ht1, rfl⟩
  have hd1 : t1.data.toList = Sct.jn [Sct.dg a.u.toNat] := ht1
  have hz1 : t1.size ≤ 200 := by rw [Lib.size_eq, ht1]; exact dg_le hu
  clear ht1
  have HJ1 := hide (cat_jn HJ0.out hd1 (by simp) (by simp))
  have hs1 := cat_size e0 t1
  go_wp2
  obtain ⟨e1, he1⟩ : ∃ e, e0 ++ ⟨#[32]⟩ ++ t1 = e := ⟨_, rfl⟩
  rw [he1]
  rw [he1] at HJ1 hs1
  have he1z : e1.size ≤ 211 := by omega
  clear he1 hd1 hs1
  rw [rounds_succ]
  obtain ⟨m, hm⟩ : ∃ m, a.ops.length = m := ⟨_, rfl⟩
  have HM := hide hm
  have CZ := hide (Bm.chkL_zero (by have := HOK.out.ops; rw [show Sct.ho a.k = true by rw [HK.out]; decide] at this; exact this))
  have hm8 : m ≤ 8 := by have := CZ.out.2.1; omega
  have TX2 : Hid (Sct.txt a = ([Sct.nm ((1 : Nat) : Int)] ++ [Sct.dg a.u.toNat]) ++ Sct.opw a.ops) := hide (by
    unfold Sct.txt Sct.tail
    rw [HK.out]
    rfl)
  rw [hm] at AB c5 ⊢
  rw [show a.ops.length = m from HM.out] at HO
  clear hm c0 c1 c2 c3 c4 c5
  have HJX := HJ1
  go_wp2
  go_loopw [3, 6] (fun sv kv wr => ∃ (k : Nat) (x : ByteArray), k ≤ m ∧ kv = .int .i64 k ∧ sv = .string x ∧ x.size ≤ 300 + 700 * k ∧ Hid (x.data.toList = Sct.jn (([Sct.nm ((1 : Nat) : Int)] ++ [Sct.dg a.u.toNat]) ++ Sct.opw (a.ops.take k))) ∧ wr.heap[w.heap.size]? = some (.cells #[.int .i64 1, .int .i64 a.u, .int .i64 a.n, .int .i64 a.t, .string a.key, .slice oa m oc] 24 (0, 0)) ∧ Below w.heap.size w wr) (fun _ kv _ => m - (intOf kv).toNat)
  case atStart => exact ⟨0, e1, by omega, rfl, rfl, by omega, hide (by simpa [Sct.opw] using HJX.out), AB, BL⟩
  case round =>
    obtain ⟨k, x, hk, rfl, rfl, hxz, hxj, ab, bel⟩ := hrel
    have hbs := bel.size
    have c5 := blk_cell ab 5 rfl
    by_cases hlt : k < m
    · have hlt' : (k : Int) < m := by omega
      obtain ⟨ob, off, cap, hvx, _, _, hob, hc⟩ := (HO.out.below bel).full (by have := HM.out; omega)
      rw [HM.out] at hvx
      cases hvx
      obtain ⟨o, ho⟩ : ∃ o, a.ops[k]? = some o := ⟨a.ops[k]'(by have := HM.out; omega), List.getElem?_eq_getElem _⟩
      obtain ⟨p0, p1, p2⟩ := hc k o ho
      have hoc : o.c = 0 := CZ.out.2.2 o (List.mem_of_getElem? ho)
      have hck := Om.chk_ok' (show Om.chk o.p o.kl o.vl = 0 from hoc)
      have hk16 : o.k.size ≤ 16 := by rw [Lib.size_eq]; exact hck.2.1
      have hv32 : o.v.size ≤ 32 := by rw [Lib.size_eq]; exact hck.2.2.1
      have TXT := hide (textR_any o.p o.k o.v wr (by omega) (by omega))
      unfold opv at TXT
      have HOC := hide hoc
      have HOI := hide ho
      have BB := hide bel
      have AA := hide ab
      clear hc hoc hck ho ab
      go_wp2_with fail
      refine TXT.out.mono ?_
      rintro E wc ⟨t, rfl, ht, bc⟩
      have htw : t.data.toList = Sct.jn (Sct.opw [o]) := by rw [ht]; exact txd_words HOC.out
      have htz : t.size ≤ 603 := by
        obtain ⟨q1, q2⟩ := opw_len [o] (fun q hq => by rw [List.mem_singleton.1 hq]; exact HOC.out)
        have := jn_len _ q2
        rw [Lib.size_eq, htw]
        simp only [List.length_cons, List.length_nil] at q1
        omega
      have JN2 : Hid ((x ++ ⟨#[32]⟩ ++ t).data.toList = Sct.jn (([Sct.nm ((1 : Nat) : Int)] ++ [Sct.dg a.u.toNat]) ++ Sct.opw (a.ops.take (k + 1)))) := hide (by
        rw [List.take_add_one, HOI.out]
        show _ = Sct.jn (_ ++ Sct.opw (a.ops.take k ++ [o]))
        rw [opw_app, ← List.append_assoc]
        exact cat_jn hxj.out htw (by simp) (opw_ne o))
      have hsz := cat_size x t
      have ab3 := (bc.block _ (blk_lt AA.out)).trans AA.out
      have B3 := BB.out.trans (bc.mono hbs)
      clear TXT ht htw bc p0 p1 p2 c5
      go_wp2
      go_roundw
      case rel =>
        refine ⟨_, _, _, _, _, _, _, _, _, _, _, _, _, _, _, _, _, _, _, _, _, _, _, _, ?r, rfl⟩
        exact ⟨k + 1, x ++ ⟨#[32]⟩ ++ t, by omega, by go_num, rfl, by omega, JN2, ab3, B3⟩
      case measure => first | (simp [intOf]; done) | (simp [intOf]; omega)
    · have hlt' : ¬ (k : Int) < m := by omega
      obtain rfl : k = m := by omega
      have hF : Hid (x.data.toList = Sct.jn (Sct.txt a)) := hide (by
        rw [hxj.out, TX2.out, List.take_of_length_le (by rw [HM.out]; exact Nat.le_refl _)])
      have FF := hide (tret_of hF.out bel)
      clear bel ab hxj
      go_wp2
      rw [rounds_succ]
      go_wp2
      go_ret
      exact FF.out

set_option maxHeartbeats 4000000 in
theorem textR25_2 (a : Sct.Av) (v : Value) (w : World) (hok : Sct.Ok a) (h : IsO w v a.ops) (hk : a.k = 2) : Calls Tryz.prog 50 #[acv a v] w (TRet w a) := by
  obtain ⟨oa, oc, rfl, _, _⟩ := h.shape
  obtain ⟨w1, hw1, s1, b1, ab⟩ := blk_step w #[.int .i64 a.k, .int .i64 a.u, .int .i64 a.n, .int .i64 a.t, .string a.key, .slice oa a.ops.length oc] 24
  have HO := hide h
  have HK := hide hk
  have TX : Hid (Sct.txt a = Sct.nm ((2 : Nat) : Int) :: Sct.tail a) := hide (by unfold Sct.txt; rw [hk]; rfl)
  have hu : 0 ≤ a.u ∧ a.u ≤ 999999999 := by have := hok.u; omega
  have hn := hok.n
  have ht := hok.t
  have hks : a.key.size ≤ 16 := byt_kk hok.key
  have HWK : Hid ((Sct.jn [Wm.wd a.key.data.toList]).length ≤ 200) := hide (by
    have := Wm.wd_le a.key.data.toList
    rw [← Lib.size_eq] at this
    show (Wm.wd a.key.data.toList).length ≤ 200
    omega)
  have HOK := hide hok
  rw [hk] at ab hw1
  unfold acv acc
  rw [hk]
  clear h hk hok
  have Q := sx_of ab
  obtain ⟨c0, c1, c2, c3, c4, c5⟩ := Q
  go_enter Tryz.func50, Tryz.ntmps50
  go_wp2_with fail
  refine (nameR_any 2 w1 (by decide)).mono ?_
  rintro E w2 ⟨rfl, b2⟩
  have AB := (b2.block w.heap.size (by omega)).trans ab
  have BL := b1.trans (b2.mono (by omega))
  clear c0 c1 c2 c3 c4 c5 b1 b2 ab
  have Q := sx_of AB
  obtain ⟨c0, c1, c2, c3, c4, c5⟩ := Q
  have HJ0 := hide (nmA_j 2 (by decide))
  have he0z := nmA_z 2 (by decide)
  obtain ⟨e0, he0⟩ : ∃ e, nmA 2 = e := ⟨_, rfl⟩
  rw [he0] at HJ0 he0z ⊢
  clear he0
  go_wp2_with fail
  refine (shapeR_any 2 w2).mono ?_
  rintro E w3 ⟨rfl, rfl⟩
  rw [show (⟨(shp 2).toArray⟩ : ByteArray) = ⟨#[110, 107]⟩ from rfl]
  go_wp2
  refine wp_loop_rounds 3 ?_
  rw [rounds_succ]
  go_wp2_with fail
  refine (digI a.u hu w2).mono ?_
  rintro E z1 ⟨t1, rfl, ht1, rfl⟩
  have hd1 : t1.data.toList = Sct.jn [Sct.dg a.u.toNat] := ht1
  have hz1 : t1.size ≤ 200 := by rw [Lib.size_eq, ht1]; exact dg_le hu
  clear ht1
  have HJ1 := hide (cat_jn HJ0.out hd1 (by simp) (by simp))
  have hs1 := cat_size e0 t1
  go_wp2
  obtain ⟨e1, he1⟩ : ∃ e, e0 ++ ⟨#[32]⟩ ++ t1 = e := ⟨_, rfl⟩
  rw [he1]
  rw [he1] at HJ1 hs1
  have he1z : e1.size ≤ 211 := by omega
  clear he1 hd1 hs1
  rw [rounds_succ]
  go_wp2_with fail
  refine (wordR_any a.key w2 (by have := hks; omega)).mono ?_
  rintro E z2 ⟨rfl, b2⟩
  obtain ⟨t2, ht2⟩ : ∃ t : ByteArray, (⟨(Wm.wd a.key.data.toList).toArray⟩ : ByteArray) = t := ⟨_, rfl⟩
  have hd2 : t2.data.toList = Sct.jn [Wm.wd a.key.data.toList] := by rw [← ht2]; rfl
  have hz2 : t2.size ≤ 200 := by rw [Lib.size_eq, hd2]; exact HWK.out
  rw [ht2]
  have AB2 := (b2.block _ (blk_lt AB)).trans AB
  have BL2 := BL.trans (b2.mono BL.size)
  clear AB BL c0 c1 c2 c3 c4 c5
  have AB := AB2
  have BL := BL2
  have Q := sx_of AB
  obtain ⟨c0, c1, c2, c3, c4, c5⟩ := Q
  clear AB2 BL2 b2 ht2
  have HJ2 := hide (cat_jn HJ1.out hd2 (by simp) (by simp))
  have hs2 := cat_size e1 t2
  go_wp2
  obtain ⟨e2, he2⟩ : ∃ e, e1 ++ ⟨#[32]⟩ ++ t2 = e := ⟨_, rfl⟩
  rw [he2]
  rw [he2] at HJ2 hs2
  have he2z : e2.size ≤ 412 := by omega
  clear he2 hd2 hs2
  rw [rounds_succ]
  have hF : e2.data.toList = Sct.jn (Sct.txt a) := by
    rw [HJ2.out]
    unfold Sct.txt Sct.tail
    rw [HK.out]
    rfl
  have FF := hide (tret_of hF BL)
  clear hF BL AB
  go_wp2
  go_ret
  exact FF.out

set_option maxHeartbeats 4000000 in
theorem textR25_3 (a : Sct.Av) (v : Value) (w : World) (hok : Sct.Ok a) (h : IsO w v a.ops) (hk : a.k = 3) : Calls Tryz.prog 50 #[acv a v] w (TRet w a) := by
  obtain ⟨oa, oc, rfl, _, _⟩ := h.shape
  obtain ⟨w1, hw1, s1, b1, ab⟩ := blk_step w #[.int .i64 a.k, .int .i64 a.u, .int .i64 a.n, .int .i64 a.t, .string a.key, .slice oa a.ops.length oc] 24
  have HO := hide h
  have HK := hide hk
  have TX : Hid (Sct.txt a = Sct.nm ((3 : Nat) : Int) :: Sct.tail a) := hide (by unfold Sct.txt; rw [hk]; rfl)
  have hu : 0 ≤ a.u ∧ a.u ≤ 999999999 := by have := hok.u; omega
  have hn := hok.n
  have ht := hok.t
  have hks : a.key.size ≤ 16 := byt_kk hok.key
  have HWK : Hid ((Sct.jn [Wm.wd a.key.data.toList]).length ≤ 200) := hide (by
    have := Wm.wd_le a.key.data.toList
    rw [← Lib.size_eq] at this
    show (Wm.wd a.key.data.toList).length ≤ 200
    omega)
  have HOK := hide hok
  rw [hk] at ab hw1
  unfold acv acc
  rw [hk]
  clear h hk hok
  have Q := sx_of ab
  obtain ⟨c0, c1, c2, c3, c4, c5⟩ := Q
  go_enter Tryz.func50, Tryz.ntmps50
  go_wp2_with fail
  refine (nameR_any 3 w1 (by decide)).mono ?_
  rintro E w2 ⟨rfl, b2⟩
  have AB := (b2.block w.heap.size (by omega)).trans ab
  have BL := b1.trans (b2.mono (by omega))
  clear c0 c1 c2 c3 c4 c5 b1 b2 ab
  have Q := sx_of AB
  obtain ⟨c0, c1, c2, c3, c4, c5⟩ := Q
  have HJ0 := hide (nmA_j 3 (by decide))
  have he0z := nmA_z 3 (by decide)
  obtain ⟨e0, he0⟩ : ∃ e, nmA 3 = e := ⟨_, rfl⟩
  rw [he0] at HJ0 he0z ⊢
  clear he0
  go_wp2_with fail
  refine (shapeR_any 3 w2).mono ?_
  rintro E w3 ⟨rfl, rfl⟩
  rw [show (⟨(shp 3).toArray⟩ : ByteArray) = ⟨#[110]⟩ from rfl]
  go_wp2
  refine wp_loop_rounds 2 ?_
  rw [rounds_succ]
  go_wp2_with fail
  refine (digI a.u hu w2).mono ?_
  rintro E z1 ⟨t1, rfl, ht1, rfl⟩
  have hd1 : t1.data.toList = Sct.jn [Sct.dg a.u.toNat] := ht1
  have hz1 : t1.size ≤ 200 := by rw [Lib.size_eq, ht1]; exact dg_le hu
  clear ht1
  have HJ1 := hide (cat_jn HJ0.out hd1 (by simp) (by simp))
  have hs1 := cat_size e0 t1
  go_wp2
  obtain ⟨e1, he1⟩ : ∃ e, e0 ++ ⟨#[32]⟩ ++ t1 = e := ⟨_, rfl⟩
  rw [he1]
  rw [he1] at HJ1 hs1
  have he1z : e1.size ≤ 211 := by omega
  clear he1 hd1 hs1
  rw [rounds_succ]
  have hF : e1.data.toList = Sct.jn (Sct.txt a) := by
    rw [HJ1.out]
    unfold Sct.txt Sct.tail
    rw [HK.out]
    rfl
  have FF := hide (tret_of hF BL)
  clear hF BL AB
  go_wp2
  go_ret
  exact FF.out

set_option maxHeartbeats 4000000 in
theorem textR25_4 (a : Sct.Av) (v : Value) (w : World) (hok : Sct.Ok a) (h : IsO w v a.ops) (hk : a.k = 4) : Calls Tryz.prog 50 #[acv a v] w (TRet w a) := by
  obtain ⟨oa, oc, rfl, _, _⟩ := h.shape
  obtain ⟨w1, hw1, s1, b1, ab⟩ := blk_step w #[.int .i64 a.k, .int .i64 a.u, .int .i64 a.n, .int .i64 a.t, .string a.key, .slice oa a.ops.length oc] 24
  have HO := hide h
  have HK := hide hk
  have TX : Hid (Sct.txt a = Sct.nm ((4 : Nat) : Int) :: Sct.tail a) := hide (by unfold Sct.txt; rw [hk]; rfl)
  have hu : 0 ≤ a.u ∧ a.u ≤ 999999999 := by have := hok.u; omega
  have hn := hok.n
  have ht := hok.t
  have hks : a.key.size ≤ 16 := byt_kk hok.key
  have HWK : Hid ((Sct.jn [Wm.wd a.key.data.toList]).length ≤ 200) := hide (by
    have := Wm.wd_le a.key.data.toList
    rw [← Lib.size_eq] at this
    show (Wm.wd a.key.data.toList).length ≤ 200
    omega)
  have HOK := hide hok
  rw [hk] at ab hw1
  unfold acv acc
  rw [hk]
  clear h hk hok
  have Q := sx_of ab
  obtain ⟨c0, c1, c2, c3, c4, c5⟩ := Q
  go_enter Tryz.func50, Tryz.ntmps50
  go_wp2_with fail
  refine (nameR_any 4 w1 (by decide)).mono ?_
  rintro E w2 ⟨rfl, b2⟩
  have AB := (b2.block w.heap.size (by omega)).trans ab
  have BL := b1.trans (b2.mono (by omega))
  clear c0 c1 c2 c3 c4 c5 b1 b2 ab
  have Q := sx_of AB
  obtain ⟨c0, c1, c2, c3, c4, c5⟩ := Q
  have HJ0 := hide (nmA_j 4 (by decide))
  have he0z := nmA_z 4 (by decide)
  obtain ⟨e0, he0⟩ : ∃ e, nmA 4 = e := ⟨_, rfl⟩
  rw [he0] at HJ0 he0z ⊢
  clear he0
  go_wp2_with fail
  refine (shapeR_any 4 w2).mono ?_
  rintro E w3 ⟨rfl, rfl⟩
  rw [show (⟨(shp 4).toArray⟩ : ByteArray) = ⟨#[110]⟩ from rfl]
  go_wp2
  refine wp_loop_rounds 2 ?_
  rw [rounds_succ]
  go_wp2_with fail
  refine (digI a.u hu w2).mono ?_
  rintro E z1 ⟨t1, rfl, ht1, rfl⟩
  have hd1 : t1.data.toList = Sct.jn [Sct.dg a.u.toNat] := ht1
  have hz1 : t1.size ≤ 200 := by rw [Lib.size_eq, ht1]; exact dg_le hu
  clear ht1
  have HJ1 := hide (cat_jn HJ0.out hd1 (by simp) (by simp))
  have hs1 := cat_size e0 t1
  go_wp2
  obtain ⟨e1, he1⟩ : ∃ e, e0 ++ ⟨#[32]⟩ ++ t1 = e := ⟨_, rfl⟩
  rw [he1]
  rw [he1] at HJ1 hs1
  have he1z : e1.size ≤ 211 := by omega
  clear he1 hd1 hs1
  rw [rounds_succ]
  have hF : e1.data.toList = Sct.jn (Sct.txt a) := by
    rw [HJ1.out]
    unfold Sct.txt Sct.tail
    rw [HK.out]
    rfl
  have FF := hide (tret_of hF BL)
  clear hF BL AB
  go_wp2
  go_ret
  exact FF.out

set_option maxHeartbeats 4000000 in
theorem textR25_5 (a : Sct.Av) (v : Value) (w : World) (hok : Sct.Ok a) (h : IsO w v a.ops) (hk : a.k = 5) : Calls Tryz.prog 50 #[acv a v] w (TRet w a) := by
  obtain ⟨oa, oc, rfl, _, _⟩ := h.shape
  obtain ⟨w1, hw1, s1, b1, ab⟩ := blk_step w #[.int .i64 a.k, .int .i64 a.u, .int .i64 a.n, .int .i64 a.t, .string a.key, .slice oa a.ops.length oc] 24
  have HO := hide h
  have HK := hide hk
  have TX : Hid (Sct.txt a = Sct.nm ((5 : Nat) : Int) :: Sct.tail a) := hide (by unfold Sct.txt; rw [hk]; rfl)
  have hu : 0 ≤ a.u ∧ a.u ≤ 999999999 := by have := hok.u; omega
  have hn := hok.n
  have ht := hok.t
  have hks : a.key.size ≤ 16 := byt_kk hok.key
  have HWK : Hid ((Sct.jn [Wm.wd a.key.data.toList]).length ≤ 200) := hide (by
    have := Wm.wd_le a.key.data.toList
    rw [← Lib.size_eq] at this
    show (Wm.wd a.key.data.toList).length ≤ 200
    omega)
  have HOK := hide hok
  rw [hk] at ab hw1
  unfold acv acc
  rw [hk]
  clear h hk hok
  have Q := sx_of ab
  obtain ⟨c0, c1, c2, c3, c4, c5⟩ := Q
  go_enter Tryz.func50, Tryz.ntmps50
  go_wp2_with fail
  refine (nameR_any 5 w1 (by decide)).mono ?_
  rintro E w2 ⟨rfl, b2⟩
  have AB := (b2.block w.heap.size (by omega)).trans ab
  have BL := b1.trans (b2.mono (by omega))
  clear c0 c1 c2 c3 c4 c5 b1 b2 ab
  have Q := sx_of AB
  obtain ⟨c0, c1, c2, c3, c4, c5⟩ := Q
  have HJ0 := hide (nmA_j 5 (by decide))
  have he0z := nmA_z 5 (by decide)
  obtain ⟨e0, he0⟩ : ∃ e, nmA 5 = e := ⟨_, rfl⟩
  rw [he0] at HJ0 he0z ⊢
  clear he0
  go_wp2_with fail
  refine (shapeR_any 5 w2).mono ?_
  rintro E w3 ⟨rfl, rfl⟩
  rw [show (⟨(shp 5).toArray⟩ : ByteArray) = ⟨#[110]⟩ from rfl]
  go_wp2
  refine wp_loop_rounds 2 ?_
  rw [rounds_succ]
  go_wp2_with fail
  refine (digI a.u hu w2).mono ?_
  rintro E z1 ⟨t1, rfl, ht1, rfl⟩
  have hd1 : t1.data.toList = Sct.jn [Sct.dg a.u.toNat] := ht1
  have hz1 : t1.size ≤ 200 := by rw [Lib.size_eq, ht1]; exact dg_le hu
  clear ht1
  have HJ1 := hide (cat_jn HJ0.out hd1 (by simp) (by simp))
  have hs1 := cat_size e0 t1
  go_wp2
  obtain ⟨e1, he1⟩ : ∃ e, e0 ++ ⟨#[32]⟩ ++ t1 = e := ⟨_, rfl⟩
  rw [he1]
  rw [he1] at HJ1 hs1
  have he1z : e1.size ≤ 211 := by omega
  clear he1 hd1 hs1
  rw [rounds_succ]
  have hF : e1.data.toList = Sct.jn (Sct.txt a) := by
    rw [HJ1.out]
    unfold Sct.txt Sct.tail
    rw [HK.out]
    rfl
  have FF := hide (tret_of hF BL)
  clear hF BL AB
  go_wp2
  go_ret
  exact FF.out

set_option maxHeartbeats 4000000 in
theorem textR25_6 (a : Sct.Av) (v : Value) (w : World) (hok : Sct.Ok a) (h : IsO w v a.ops) (hk : a.k = 6) : Calls Tryz.prog 50 #[acv a v] w (TRet w a) := by
  obtain ⟨oa, oc, rfl, _, _⟩ := h.shape
  obtain ⟨w1, hw1, s1, b1, ab⟩ := blk_step w #[.int .i64 a.k, .int .i64 a.u, .int .i64 a.n, .int .i64 a.t, .string a.key, .slice oa a.ops.length oc] 24
  have HO := hide h
  have HK := hide hk
  have TX : Hid (Sct.txt a = Sct.nm ((6 : Nat) : Int) :: Sct.tail a) := hide (by unfold Sct.txt; rw [hk]; rfl)
  have hu : 0 ≤ a.u ∧ a.u ≤ 999999999 := by have := hok.u; omega
  have hn := hok.n
  have ht := hok.t
  have hks : a.key.size ≤ 16 := byt_kk hok.key
  have HWK : Hid ((Sct.jn [Wm.wd a.key.data.toList]).length ≤ 200) := hide (by
    have := Wm.wd_le a.key.data.toList
    rw [← Lib.size_eq] at this
    show (Wm.wd a.key.data.toList).length ≤ 200
    omega)
  have HOK := hide hok
  rw [hk] at ab hw1
  unfold acv acc
  rw [hk]
  clear h hk hok
  have Q := sx_of ab
  obtain ⟨c0, c1, c2, c3, c4, c5⟩ := Q
  go_enter Tryz.func50, Tryz.ntmps50
  go_wp2_with fail
  refine (nameR_any 6 w1 (by decide)).mono ?_
  rintro E w2 ⟨rfl, b2⟩
  have AB := (b2.block w.heap.size (by omega)).trans ab
  have BL := b1.trans (b2.mono (by omega))
  clear c0 c1 c2 c3 c4 c5 b1 b2 ab
  have Q := sx_of AB
  obtain ⟨c0, c1, c2, c3, c4, c5⟩ := Q
  have HJ0 := hide (nmA_j 6 (by decide))
  have he0z := nmA_z 6 (by decide)
  obtain ⟨e0, he0⟩ : ∃ e, nmA 6 = e := ⟨_, rfl⟩
  rw [he0] at HJ0 he0z ⊢
  clear he0
  go_wp2_with fail
  refine (shapeR_any 6 w2).mono ?_
  rintro E w3 ⟨rfl, rfl⟩
  rw [show (⟨(shp 6).toArray⟩ : ByteArray) = ⟨#[97]⟩ from rfl]
  go_wp2
  refine wp_loop_rounds 2 ?_
  rw [rounds_succ]
  go_wp2_with fail
  refine (digI a.n hn w2).mono ?_
  rintro E z1 ⟨t1, rfl, ht1, rfl⟩
  have hd1 : t1.data.toList = Sct.jn [Sct.dg a.n.toNat] := ht1
  have hz1 : t1.size ≤ 200 := by rw [Lib.size_eq, ht1]; exact dg_le hn
  clear ht1
  have HJ1 := hide (cat_jn HJ0.out hd1 (by simp) (by simp))
  have hs1 := cat_size e0 t1
  go_wp2
  obtain ⟨e1, he1⟩ : ∃ e, e0 ++ ⟨#[32]⟩ ++ t1 = e := ⟨_, rfl⟩
  rw [he1]
  rw [he1] at HJ1 hs1
  have he1z : e1.size ≤ 211 := by omega
  clear he1 hd1 hs1
  rw [rounds_succ]
  have hF : e1.data.toList = Sct.jn (Sct.txt a) := by
    rw [HJ1.out]
    unfold Sct.txt Sct.tail
    rw [HK.out]
    rfl
  have FF := hide (tret_of hF BL)
  clear hF BL AB
  go_wp2
  go_ret
  exact FF.out

set_option maxHeartbeats 4000000 in
theorem textR25_7 (a : Sct.Av) (v : Value) (w : World) (hok : Sct.Ok a) (h : IsO w v a.ops) (hk : a.k = 7) : Calls Tryz.prog 50 #[acv a v] w (TRet w a) := by
  obtain ⟨oa, oc, rfl, _, _⟩ := h.shape
  obtain ⟨w1, hw1, s1, b1, ab⟩ := blk_step w #[.int .i64 a.k, .int .i64 a.u, .int .i64 a.n, .int .i64 a.t, .string a.key, .slice oa a.ops.length oc] 24
  have HO := hide h
  have HK := hide hk
  have TX : Hid (Sct.txt a = Sct.nm ((7 : Nat) : Int) :: Sct.tail a) := hide (by unfold Sct.txt; rw [hk]; rfl)
  have hu : 0 ≤ a.u ∧ a.u ≤ 999999999 := by have := hok.u; omega
  have hn := hok.n
  have ht := hok.t
  have hks : a.key.size ≤ 16 := byt_kk hok.key
  have HWK : Hid ((Sct.jn [Wm.wd a.key.data.toList]).length ≤ 200) := hide (by
    have := Wm.wd_le a.key.data.toList
    rw [← Lib.size_eq] at this
    show (Wm.wd a.key.data.toList).length ≤ 200
    omega)
  have HOK := hide hok
  rw [hk] at ab hw1
  unfold acv acc
  rw [hk]
  clear h hk hok
  have Q := sx_of ab
  obtain ⟨c0, c1, c2, c3, c4, c5⟩ := Q
  go_enter Tryz.func50, Tryz.ntmps50
  go_wp2_with fail
  refine (nameR_any 7 w1 (by decide)).mono ?_
  rintro E w2 ⟨rfl, b2⟩
  have AB := (b2.block w.heap.size (by omega)).trans ab
  have BL := b1.trans (b2.mono (by omega))
  clear c0 c1 c2 c3 c4 c5 b1 b2 ab
  have Q := sx_of AB
  obtain ⟨c0, c1, c2, c3, c4, c5⟩ := Q
  have HJ0 := hide (nmA_j 7 (by decide))
  have he0z := nmA_z 7 (by decide)
  obtain ⟨e0, he0⟩ : ∃ e, nmA 7 = e := ⟨_, rfl⟩
  rw [he0] at HJ0 he0z ⊢
  clear he0
  go_wp2_with fail
  refine (shapeR_any 7 w2).mono ?_
  rintro E w3 ⟨rfl, rfl⟩
  rw [show (⟨(shp 7).toArray⟩ : ByteArray) = ⟨#[97]⟩ from rfl]
  go_wp2
  refine wp_loop_rounds 2 ?_
  rw [rounds_succ]
  go_wp2_with fail
  refine (digI a.n hn w2).mono ?_
  rintro E z1 ⟨t1, rfl, ht1, rfl⟩
  have hd1 : t1.data.toList = Sct.jn [Sct.dg a.n.toNat] := ht1
  have hz1 : t1.size ≤ 200 := by rw [Lib.size_eq, ht1]; exact dg_le hn
  clear ht1
  have HJ1 := hide (cat_jn HJ0.out hd1 (by simp) (by simp))
  have hs1 := cat_size e0 t1
  go_wp2
  obtain ⟨e1, he1⟩ : ∃ e, e0 ++ ⟨#[32]⟩ ++ t1 = e := ⟨_, rfl⟩
  rw [he1]
  rw [he1] at HJ1 hs1
  have he1z : e1.size ≤ 211 := by omega
  clear he1 hd1 hs1
  rw [rounds_succ]
  have hF : e1.data.toList = Sct.jn (Sct.txt a) := by
    rw [HJ1.out]
    unfold Sct.txt Sct.tail
    rw [HK.out]
    rfl
  have FF := hide (tret_of hF BL)
  clear hF BL AB
  go_wp2
  go_ret
  exact FF.out

set_option maxHeartbeats 4000000 in
theorem textR25_8 (a : Sct.Av) (v : Value) (w : World) (hok : Sct.Ok a) (h : IsO w v a.ops) (hk : a.k = 8) : Calls Tryz.prog 50 #[acv a v] w (TRet w a) := by
  obtain ⟨oa, oc, rfl, _, _⟩ := h.shape
  obtain ⟨w1, hw1, s1, b1, ab⟩ := blk_step w #[.int .i64 a.k, .int .i64 a.u, .int .i64 a.n, .int .i64 a.t, .string a.key, .slice oa a.ops.length oc] 24
  have HO := hide h
  have HK := hide hk
  have TX : Hid (Sct.txt a = Sct.nm ((8 : Nat) : Int) :: Sct.tail a) := hide (by unfold Sct.txt; rw [hk]; rfl)
  have hu : 0 ≤ a.u ∧ a.u ≤ 999999999 := by have := hok.u; omega
  have hn := hok.n
  have ht := hok.t
  have hks : a.key.size ≤ 16 := byt_kk hok.key
  have HWK : Hid ((Sct.jn [Wm.wd a.key.data.toList]).length ≤ 200) := hide (by
    have := Wm.wd_le a.key.data.toList
    rw [← Lib.size_eq] at this
    show (Wm.wd a.key.data.toList).length ≤ 200
    omega)
  have HOK := hide hok
  rw [hk] at ab hw1
  unfold acv acc
  rw [hk]
  clear h hk hok
  have Q := sx_of ab
  obtain ⟨c0, c1, c2, c3, c4, c5⟩ := Q
  go_enter Tryz.func50, Tryz.ntmps50
  go_wp2_with fail
  refine (nameR_any 8 w1 (by decide)).mono ?_
  rintro E w2 ⟨rfl, b2⟩
  have AB := (b2.block w.heap.size (by omega)).trans ab
  have BL := b1.trans (b2.mono (by omega))
  clear c0 c1 c2 c3 c4 c5 b1 b2 ab
  have Q := sx_of AB
  obtain ⟨c0, c1, c2, c3, c4, c5⟩ := Q
  have HJ0 := hide (nmA_j 8 (by decide))
  have he0z := nmA_z 8 (by decide)
  obtain ⟨e0, he0⟩ : ∃ e, nmA 8 = e := ⟨_, rfl⟩
  rw [he0] at HJ0 he0z ⊢
  clear he0
  go_wp2_with fail
  refine (shapeR_any 8 w2).mono ?_
  rintro E w3 ⟨rfl, rfl⟩
  rw [show (⟨(shp 8).toArray⟩ : ByteArray) = ⟨#[97]⟩ from rfl]
  go_wp2
  refine wp_loop_rounds 2 ?_
  rw [rounds_succ]
  go_wp2_with fail
  refine (digI a.n hn w2).mono ?_
  rintro E z1 ⟨t1, rfl, ht1, rfl⟩
  have hd1 : t1.data.toList = Sct.jn [Sct.dg a.n.toNat] := ht1
  have hz1 : t1.size ≤ 200 := by rw [Lib.size_eq, ht1]; exact dg_le hn
  clear ht1
  have HJ1 := hide (cat_jn HJ0.out hd1 (by simp) (by simp))
  have hs1 := cat_size e0 t1
  go_wp2
  obtain ⟨e1, he1⟩ : ∃ e, e0 ++ ⟨#[32]⟩ ++ t1 = e := ⟨_, rfl⟩
  rw [he1]
  rw [he1] at HJ1 hs1
  have he1z : e1.size ≤ 211 := by omega
  clear he1 hd1 hs1
  rw [rounds_succ]
  have hF : e1.data.toList = Sct.jn (Sct.txt a) := by
    rw [HJ1.out]
    unfold Sct.txt Sct.tail
    rw [HK.out]
    rfl
  have FF := hide (tret_of hF BL)
  clear hF BL AB
  go_wp2
  go_ret
  exact FF.out

set_option maxHeartbeats 4000000 in
theorem textR25_9 (a : Sct.Av) (v : Value) (w : World) (hok : Sct.Ok a) (h : IsO w v a.ops) (hk : a.k = 9) : Calls Tryz.prog 50 #[acv a v] w (TRet w a) := by
  obtain ⟨oa, oc, rfl, _, _⟩ := h.shape
  obtain ⟨w1, hw1, s1, b1, ab⟩ := blk_step w #[.int .i64 a.k, .int .i64 a.u, .int .i64 a.n, .int .i64 a.t, .string a.key, .slice oa a.ops.length oc] 24
  have HO := hide h
  have HK := hide hk
  have TX : Hid (Sct.txt a = Sct.nm ((9 : Nat) : Int) :: Sct.tail a) := hide (by unfold Sct.txt; rw [hk]; rfl)
  have hu : 0 ≤ a.u ∧ a.u ≤ 999999999 := by have := hok.u; omega
  have hn := hok.n
  have ht := hok.t
  have hks : a.key.size ≤ 16 := byt_kk hok.key
  have HWK : Hid ((Sct.jn [Wm.wd a.key.data.toList]).length ≤ 200) := hide (by
    have := Wm.wd_le a.key.data.toList
    rw [← Lib.size_eq] at this
    show (Wm.wd a.key.data.toList).length ≤ 200
    omega)
  have HOK := hide hok
  rw [hk] at ab hw1
  unfold acv acc
  rw [hk]
  clear h hk hok
  have Q := sx_of ab
  obtain ⟨c0, c1, c2, c3, c4, c5⟩ := Q
  go_enter Tryz.func50, Tryz.ntmps50
  go_wp2_with fail
  refine (nameR_any 9 w1 (by decide)).mono ?_
  rintro E w2 ⟨rfl, b2⟩
  have AB := (b2.block w.heap.size (by omega)).trans ab
  have BL := b1.trans (b2.mono (by omega))
  clear c0 c1 c2 c3 c4 c5 b1 b2 ab
  have Q := sx_of AB
  obtain ⟨c0, c1, c2, c3, c4, c5⟩ := Q
  have HJ0 := hide (nmA_j 9 (by decide))
  have he0z := nmA_z 9 (by decide)
  obtain ⟨e0, he0⟩ : ∃ e, nmA 9 = e := ⟨_, rfl⟩
  rw [he0] at HJ0 he0z ⊢
  clear he0
  go_wp2_with fail
  refine (shapeR_any 9 w2).mono ?_
  rintro E w3 ⟨rfl, rfl⟩
  rw [show (⟨(shp 9).toArray⟩ : ByteArray) = ⟨#[110, 97]⟩ from rfl]
  go_wp2
  refine wp_loop_rounds 3 ?_
  rw [rounds_succ]
  go_wp2_with fail
  refine (digI a.u hu w2).mono ?_
  rintro E z1 ⟨t1, rfl, ht1, rfl⟩
  have hd1 : t1.data.toList = Sct.jn [Sct.dg a.u.toNat] := ht1
  have hz1 : t1.size ≤ 200 := by rw [Lib.size_eq, ht1]; exact dg_le hu
  clear ht1
  have HJ1 := hide (cat_jn HJ0.out hd1 (by simp) (by simp))
  have hs1 := cat_size e0 t1
  go_wp2
  obtain ⟨e1, he1⟩ : ∃ e, e0 ++ ⟨#[32]⟩ ++ t1 = e := ⟨_, rfl⟩
  rw [he1]
  rw [he1] at HJ1 hs1
  have he1z : e1.size ≤ 211 := by omega
  clear he1 hd1 hs1
  rw [rounds_succ]
  go_wp2_with fail
  refine (digI a.n hn w2).mono ?_
  rintro E z2 ⟨t2, rfl, ht2, rfl⟩
  have hd2 : t2.data.toList = Sct.jn [Sct.dg a.n.toNat] := ht2
  have hz2 : t2.size ≤ 200 := by rw [Lib.size_eq, ht2]; exact dg_le hn
  clear ht2
  have HJ2 := hide (cat_jn HJ1.out hd2 (by simp) (by simp))
  have hs2 := cat_size e1 t2
  go_wp2
  obtain ⟨e2, he2⟩ : ∃ e, e1 ++ ⟨#[32]⟩ ++ t2 = e := ⟨_, rfl⟩
  rw [he2]
  rw [he2] at HJ2 hs2
  have he2z : e2.size ≤ 412 := by omega
  clear he2 hd2 hs2
  rw [rounds_succ]
  have hF : e2.data.toList = Sct.jn (Sct.txt a) := by
    rw [HJ2.out]
    unfold Sct.txt Sct.tail
    rw [HK.out]
    rfl
  have FF := hide (tret_of hF BL)
  clear hF BL AB
  go_wp2
  go_ret
  exact FF.out

set_option maxHeartbeats 4000000 in
theorem textR25_10 (a : Sct.Av) (v : Value) (w : World) (hok : Sct.Ok a) (h : IsO w v a.ops) (hk : a.k = 10) : Calls Tryz.prog 50 #[acv a v] w (TRet w a) := by
  obtain ⟨oa, oc, rfl, _, _⟩ := h.shape
  obtain ⟨w1, hw1, s1, b1, ab⟩ := blk_step w #[.int .i64 a.k, .int .i64 a.u, .int .i64 a.n, .int .i64 a.t, .string a.key, .slice oa a.ops.length oc] 24
  have HO := hide h
  have HK := hide hk
  have TX : Hid (Sct.txt a = Sct.nm ((10 : Nat) : Int) :: Sct.tail a) := hide (by unfold Sct.txt; rw [hk]; rfl)
  have hu : 0 ≤ a.u ∧ a.u ≤ 999999999 := by have := hok.u; omega
  have hn := hok.n
  have ht := hok.t
  have hks : a.key.size ≤ 16 := byt_kk hok.key
  have HWK : Hid ((Sct.jn [Wm.wd a.key.data.toList]).length ≤ 200) := hide (by
    have := Wm.wd_le a.key.data.toList
    rw [← Lib.size_eq] at this
    show (Wm.wd a.key.data.toList).length ≤ 200
    omega)
  have HOK := hide hok
  rw [hk] at ab hw1
  unfold acv acc
  rw [hk]
  clear h hk hok
  have Q := sx_of ab
  obtain ⟨c0, c1, c2, c3, c4, c5⟩ := Q
  go_enter Tryz.func50, Tryz.ntmps50
  go_wp2_with fail
  refine (nameR_any 10 w1 (by decide)).mono ?_
  rintro E w2 ⟨rfl, b2⟩
  have AB := (b2.block w.heap.size (by omega)).trans ab
  have BL := b1.trans (b2.mono (by omega))
  clear c0 c1 c2 c3 c4 c5 b1 b2 ab
  have Q := sx_of AB
  obtain ⟨c0, c1, c2, c3, c4, c5⟩ := Q
  have HJ0 := hide (nmA_j 10 (by decide))
  have he0z := nmA_z 10 (by decide)
  obtain ⟨e0, he0⟩ : ∃ e, nmA 10 = e := ⟨_, rfl⟩
  rw [he0] at HJ0 he0z ⊢
  clear he0
  go_wp2_with fail
  refine (shapeR_any 10 w2).mono ?_
  rintro E w3 ⟨rfl, rfl⟩
  rw [show (⟨(shp 10).toArray⟩ : ByteArray) = ⟨#[110]⟩ from rfl]
  go_wp2
  refine wp_loop_rounds 2 ?_
  rw [rounds_succ]
  go_wp2_with fail
  refine (digI a.u hu w2).mono ?_
  rintro E z1 ⟨t1, rfl, ht1, rfl⟩
  have hd1 : t1.data.toList = Sct.jn [Sct.dg a.u.toNat] := ht1
  have hz1 : t1.size ≤ 200 := by rw [Lib.size_eq, ht1]; exact dg_le hu
  clear ht1
  have HJ1 := hide (cat_jn HJ0.out hd1 (by simp) (by simp))
  have hs1 := cat_size e0 t1
  go_wp2
  obtain ⟨e1, he1⟩ : ∃ e, e0 ++ ⟨#[32]⟩ ++ t1 = e := ⟨_, rfl⟩
  rw [he1]
  rw [he1] at HJ1 hs1
  have he1z : e1.size ≤ 211 := by omega
  clear he1 hd1 hs1
  rw [rounds_succ]
  have hF : e1.data.toList = Sct.jn (Sct.txt a) := by
    rw [HJ1.out]
    unfold Sct.txt Sct.tail
    rw [HK.out]
    rfl
  have FF := hide (tret_of hF BL)
  clear hF BL AB
  go_wp2
  go_ret
  exact FF.out

set_option maxHeartbeats 4000000 in
theorem textR25_11 (a : Sct.Av) (v : Value) (w : World) (hok : Sct.Ok a) (h : IsO w v a.ops) (hk : a.k = 11) : Calls Tryz.prog 50 #[acv a v] w (TRet w a) := by
  obtain ⟨oa, oc, rfl, _, _⟩ := h.shape
  obtain ⟨w1, hw1, s1, b1, ab⟩ := blk_step w #[.int .i64 a.k, .int .i64 a.u, .int .i64 a.n, .int .i64 a.t, .string a.key, .slice oa a.ops.length oc] 24
  have HO := hide h
  have HK := hide hk
  have TX : Hid (Sct.txt a = Sct.nm ((11 : Nat) : Int) :: Sct.tail a) := hide (by unfold Sct.txt; rw [hk]; rfl)
  have hu : 0 ≤ a.u ∧ a.u ≤ 999999999 := by have := hok.u; omega
  have hn := hok.n
  have ht := hok.t
  have hks : a.key.size ≤ 16 := byt_kk hok.key
  have HWK : Hid ((Sct.jn [Wm.wd a.key.data.toList]).length ≤ 200) := hide (by
    have := Wm.wd_le a.key.data.toList
    rw [← Lib.size_eq] at this
    show (Wm.wd a.key.data.toList).length ≤ 200
    omega)
  have HOK := hide hok
  rw [hk] at ab hw1
  unfold acv acc
  rw [hk]
  clear h hk hok
  have Q := sx_of ab
  obtain ⟨c0, c1, c2, c3, c4, c5⟩ := Q
  go_enter Tryz.func50, Tryz.ntmps50
  go_wp2_with fail
  refine (nameR_any 11 w1 (by decide)).mono ?_
  rintro E w2 ⟨rfl, b2⟩
  have AB := (b2.block w.heap.size (by omega)).trans ab
  have BL := b1.trans (b2.mono (by omega))
  clear c0 c1 c2 c3 c4 c5 b1 b2 ab
  have Q := sx_of AB
  obtain ⟨c0, c1, c2, c3, c4, c5⟩ := Q
  have HJ0 := hide (nmA_j 11 (by decide))
  have he0z := nmA_z 11 (by decide)
  obtain ⟨e0, he0⟩ : ∃ e, nmA 11 = e := ⟨_, rfl⟩
  rw [he0] at HJ0 he0z ⊢
  clear he0
  go_wp2_with fail
  refine (shapeR_any 11 w2).mono ?_
  rintro E w3 ⟨rfl, rfl⟩
  rw [show (⟨(shp 11).toArray⟩ : ByteArray) = ⟨#[110, 97, 116]⟩ from rfl]
  go_wp2
  refine wp_loop_rounds 4 ?_
  rw [rounds_succ]
  go_wp2_with fail
  refine (digI a.u hu w2).mono ?_
  rintro E z1 ⟨t1, rfl, ht1, rfl⟩
  have hd1 : t1.data.toList = Sct.jn [Sct.dg a.u.toNat] := ht1
  have hz1 : t1.size ≤ 200 := by rw [Lib.size_eq, ht1]; exact dg_le hu
  clear ht1
  have HJ1 := hide (cat_jn HJ0.out hd1 (by simp) (by simp))
  have hs1 := cat_size e0 t1
  go_wp2
  obtain ⟨e1, he1⟩ : ∃ e, e0 ++ ⟨#[32]⟩ ++ t1 = e := ⟨_, rfl⟩
  rw [he1]
  rw [he1] at HJ1 hs1
  have he1z : e1.size ≤ 211 := by omega
  clear he1 hd1 hs1
  rw [rounds_succ]
  go_wp2_with fail
  refine (digI a.n hn w2).mono ?_
  rintro E z2 ⟨t2, rfl, ht2, rfl⟩
  have hd2 : t2.data.toList = Sct.jn [Sct.dg a.n.toNat] := ht2
  have hz2 : t2.size ≤ 200 := by rw [Lib.size_eq, ht2]; exact dg_le hn
  clear ht2
  have HJ2 := hide (cat_jn HJ1.out hd2 (by simp) (by simp))
  have hs2 := cat_size e1 t2
  go_wp2
  obtain ⟨e2, he2⟩ : ∃ e, e1 ++ ⟨#[32]⟩ ++ t2 = e := ⟨_, rfl⟩
  rw [he2]
  rw [he2] at HJ2 hs2
  have he2z : e2.size ≤ 412 := by omega
  clear he2 hd2 hs2
  rw [rounds_succ]
  go_wp2_with fail
  refine (digI a.t ht w2).mono ?_
  rintro E z3 ⟨t3, rfl, ht3, rfl⟩
  have hd3 : t3.data.toList = Sct.jn [Sct.dg a.t.toNat] := ht3
  have hz3 : t3.size ≤ 200 := by rw [Lib.size_eq, ht3]; exact dg_le ht
  clear ht3
  have HJ3 := hide (cat_jn HJ2.out hd3 (by simp) (by simp))
  have hs3 := cat_size e2 t3
  go_wp2
  obtain ⟨e3, he3⟩ : ∃ e, e2 ++ ⟨#[32]⟩ ++ t3 = e := ⟨_, rfl⟩
  rw [he3]
  rw [he3] at HJ3 hs3
  have he3z : e3.size ≤ 613 := by omega
  clear he3 hd3 hs3
  rw [rounds_succ]
  have hF : e3.data.toList = Sct.jn (Sct.txt a) := by
    rw [HJ3.out]
    unfold Sct.txt Sct.tail
    rw [HK.out]
    rfl
  have FF := hide (tret_of hF BL)
  clear hF BL AB
  go_wp2
  go_ret
  exact FF.out

set_option maxHeartbeats 4000000 in
theorem textR25_12 (a : Sct.Av) (v : Value) (w : World) (hok : Sct.Ok a) (h : IsO w v a.ops) (hk : a.k = 12) : Calls Tryz.prog 50 #[acv a v] w (TRet w a) := by
  obtain ⟨oa, oc, rfl, _, _⟩ := h.shape
  obtain ⟨w1, hw1, s1, b1, ab⟩ := blk_step w #[.int .i64 a.k, .int .i64 a.u, .int .i64 a.n, .int .i64 a.t, .string a.key, .slice oa a.ops.length oc] 24
  have HO := hide h
  have HK := hide hk
  have TX : Hid (Sct.txt a = Sct.nm ((12 : Nat) : Int) :: Sct.tail a) := hide (by unfold Sct.txt; rw [hk]; rfl)
  have hu : 0 ≤ a.u ∧ a.u ≤ 999999999 := by have := hok.u; omega
  have hn := hok.n
  have ht := hok.t
  have hks : a.key.size ≤ 16 := byt_kk hok.key
  have HWK : Hid ((Sct.jn [Wm.wd a.key.data.toList]).length ≤ 200) := hide (by
    have := Wm.wd_le a.key.data.toList
    rw [← Lib.size_eq] at this
    show (Wm.wd a.key.data.toList).length ≤ 200
    omega)
  have HOK := hide hok
  rw [hk] at ab hw1
  unfold acv acc
  rw [hk]
  clear h hk hok
  have Q := sx_of ab
  obtain ⟨c0, c1, c2, c3, c4, c5⟩ := Q
  go_enter Tryz.func50, Tryz.ntmps50
  go_wp2_with fail
  refine (nameR_any 12 w1 (by decide)).mono ?_
  rintro E w2 ⟨rfl, b2⟩
  have AB := (b2.block w.heap.size (by omega)).trans ab
  have BL := b1.trans (b2.mono (by omega))
  clear c0 c1 c2 c3 c4 c5 b1 b2 ab
  have Q := sx_of AB
  obtain ⟨c0, c1, c2, c3, c4, c5⟩ := Q
  have HJ0 := hide (nmA_j 12 (by decide))
  have he0z := nmA_z 12 (by decide)
  obtain ⟨e0, he0⟩ : ∃ e, nmA 12 = e := ⟨_, rfl⟩
  rw [he0] at HJ0 he0z ⊢
  clear he0
  go_wp2_with fail
  refine (shapeR_any 12 w2).mono ?_
  rintro E w3 ⟨rfl, rfl⟩
  rw [show (⟨(shp 12).toArray⟩ : ByteArray) = ⟨#[]⟩ from rfl]
  go_wp2
  refine wp_loop_rounds 1 ?_
  rw [rounds_succ]
  have hF : e0.data.toList = Sct.jn (Sct.txt a) := by
    rw [HJ0.out]
    unfold Sct.txt Sct.tail
    rw [HK.out]
    rfl
  have FF := hide (tret_of hF BL)
  clear hF BL AB
  go_wp2
  go_ret
  exact FF.out

theorem textR25_any (a : Sct.Av) (v : Value) (w : World) (hok : Sct.Ok a) (h : IsO w v a.ops) : Calls Tryz.prog 50 #[acv a v] w (TRet w a) := by
  obtain k | k | k | k | k | k | k | k | k | k | k | k : a.k = 1 ∨ a.k = 2 ∨ a.k = 3 ∨ a.k = 4 ∨ a.k = 5 ∨ a.k = 6 ∨ a.k = 7 ∨ a.k = 8 ∨ a.k = 9 ∨ a.k = 10 ∨ a.k = 11 ∨ a.k = 12 := by have := hok.k; omega
  · exact textR25_1 a v w hok h k
  · exact textR25_2 a v w hok h k
  · exact textR25_3 a v w hok h k
  · exact textR25_4 a v w hok h k
  · exact textR25_5 a v w hok h k
  · exact textR25_6 a v w hok h k
  · exact textR25_7 a v w hok h k
  · exact textR25_8 a v w hok h k
  · exact textR25_9 a v w hok h k
  · exact textR25_10 a v w hok h k
  · exact textR25_11 a v w hok h k
  · exact textR25_12 a v w hok h k

end Go.Proofs.YtdlogcdpapknaaaGreatDoor
