/- Package script (layer 25): Line. -/
import Derived.Test.YtdlogcdpapknaaaGreatDoorSxi
import Derived.Test.YtdlogcdpapknaaaGreatDoorSxk
namespace Go.Proofs.YtdlogcdpapknaaaGreatDoor
open Go.RowKit
set_option linter.unusedVariables false
set_option maxRecDepth 100000

theorem blank_any (x : Nat) (w : World) : Calls Tryz.prog 22 #[.int .i32 x] w fun E w' => E = .returned (.bool (isB x)) ∧ w' = w := by
  obtain ⟨b, hb⟩ : ∃ b, isB x = b := ⟨_, rfl⟩
  have hq : ((x : Int) == 32) = b := by
    rw [← hb]
    unfold isB
    rcases Decidable.em (x = 32) with rfl | h
    · rfl
    · have h1 : (x == 32) = false := by simpa using h
      rw [h1]
      simp
      omega
  rw [hb]
  go_enter Tryz.func22, Tryz.ntmps22
  go_wp2
  go_ret
  exact ⟨rfl, rfl⟩

theorem fields_any (s : ByteArray) (w : World) (hs : s.size ≤ 4294967296) :
    Calls Tryz.prog 21 #[.string s, .func (.func 22) #[] #[]] w fun E w' => ∃ A ws, E = .returned (.slice (some ⟨A, 0, none⟩) ws.length ws.length) ∧ wl ws = Sct.wds s.data.toList ∧ (∀ j u, ws[j]? = some u → w'.cell? ⟨A, j, none⟩ = some (.string u)) ∧ Below w.heap.size w w' := by
  refine (Tryz.strings_FieldsFunc_runes 22 #[] (enters_of Tryz.func22 (by kernel_rfl) rfl) isB s w hs (fun W x _ _ => (blank_any x W).mono (by rintro E w' ⟨rfl, rfl⟩; exact ⟨rfl, 0, rfl⟩))).mono ?_
  rintro E w' ⟨A, rfl, hA, own, hb⟩
  refine ⟨A, Go.Lib.goFieldsP isB s, rfl, fields_wds s, fun j u hj => ?_, hb⟩
  rcases own.2 with ⟨h0, _⟩ | ⟨g, cap, cur, hv, _, hg, hfr, hc⟩
  · cases h0
  · simp only [Value.slice.injEq, Option.some.injEq, Addr.mk.injEq, and_true] at hv
    obtain ⟨rfl, _⟩ := hv
    have h1 : (cur.toList.take ((Go.Lib.goFieldsP isB s).length * 1))[j]? = some (Value.string u) := by rw [hc.2.2, List.getElem?_map, hj]; rfl
    have hjl := (List.getElem?_eq_some_iff.1 hj).1
    rw [List.getElem?_take_of_lt (by omega)] at h1
    rw [Array.getElem?_toList] at h1
    exact blk_cell hg j h1

theorem wdsA_len : ∀ (l cur : List UInt8), (Sct.wdsA cur l).length ≤ cur.length + l.length ∧ ∀ w ∈ Sct.wdsA cur l, w.length ≤ cur.length + l.length
  | [], cur => by
    rw [Sct.wdsA]
    split
    · simp
    · rename_i h
      have := List.length_pos_iff.2 h
      refine ⟨by simp; omega, fun w hw => ?_⟩
      rw [List.mem_singleton.1 hw]
      simp
  | c :: r, cur => by
    by_cases h : c = 32
    · rw [h, Sct.wdsA_blank]
      obtain ⟨i1, i2⟩ := wdsA_len r []
      simp only [List.length_nil, Nat.zero_add] at i1 i2
      split
      · refine ⟨by simp; omega, fun w hw => ?_⟩
        have := i2 w hw
        simp; omega
      · rename_i h
        have := List.length_pos_iff.2 h
        refine ⟨by simp; omega, fun w hw => ?_⟩
        rcases List.mem_cons.1 hw with rfl | hw
        · omega
        · have := i2 w hw
          simp; omega
    · rw [Sct.wdsA_on h]
      obtain ⟨i1, i2⟩ := wdsA_len r (cur ++ [c])
      simp only [List.length_append, List.length_cons, List.length_nil] at i1 i2
      refine ⟨by simp; omega, fun w hw => ?_⟩
      have := i2 w hw
      simp; omega

/-- What Line comes to by the program. -/
def LRp (s : List UInt8) (a : Sct.Av) (there : Bool) (e : Int) : Prop :=
  (65536 < s.length ∧ a = Sct.no ∧ there = false ∧ e = 3) ∨
  (s.length ≤ 65536 ∧ Sct.Rem s ∧ a = Sct.no ∧ there = false ∧ e = 0) ∨
  (s.length ≤ 65536 ∧ ¬ Sct.Rem s ∧ Sct.Ok a ∧ Sct.txt a = Sct.wds s ∧ there = true ∧ e = 0) ∨
  (s.length ≤ 65536 ∧ ¬ Sct.Rem s ∧ (∀ b, Sct.Ok b → Sct.txt b ≠ Sct.wds s) ∧ a = Sct.no ∧ there = false ∧ e = 350)

/-- What Line gives back. -/
def LRet (w : World) (s : List UInt8) (E : Ending) (w' : World) : Prop := ∃ a v there e, E = .returned (.tuple #[acv a v, .bool there, .int .i64 e]) ∧ OwnO 77 w.heap.size w' v a.ops ∧ LRp s a there e ∧ Below w.heap.size w w'

theorem lret_no {w w' : World} {s : List UInt8} {e : Int} (h : LRp s Sct.no false e) (hb : Below w.heap.size w w') : LRet w s (.returned (.tuple #[.agg #[.int .i64 0, .int .i64 0, .int .i64 0, .int .i64 0, .string ⟨#[]⟩, .slice none 0 0], .bool false, .int .i64 e])) w' :=
  ⟨Sct.no, .slice none 0 0, false, e, rfl, OwnO.nil _ _ _, h, hb⟩

theorem putz {V : World} {R : Nat} {t : TypeId} {x0 x1 x2 x3 x4 x5 : Value} (hR : V.heap[R]? = some (.cells #[x0, x1, x2, x3, x4, x5] t (0, 0))) (a b c d e f : Value) :
    ∃ V', (((((V.setCell ⟨R, 0, none⟩ a).setCell ⟨R, 1, none⟩ b).setCell ⟨R, 2, none⟩ c).setCell ⟨R, 3, none⟩ d).setCell ⟨R, 4, none⟩ e).setCell ⟨R, 5, none⟩ f = V' ∧ V.grownBy V' (some R) ∧ V'.heap[R]? = some (.cells #[a, b, c, d, e, f] t (0, 0)) ∧
      Sx V R x0 x1 x2 x3 x4 x5 ∧ (∀ j, V.frozen? ⟨R, j, none⟩ = false) ∧ Sx V' R a b c d e f := by
  obtain ⟨V', h1, h2, h3, h4, h5⟩ := putx hR a b c d e f
  refine ⟨V', h1, h2, ?_, h3, h4, h5⟩
  rw [← h1]
  exact set_cells (set_cells (set_cells (set_cells (set_cells (set_cells hR 0 a) 1 b) 2 c) 3 d) 4 e) 5 f

set_option maxHeartbeats 4000000 in
theorem line_any (s : ByteArray) (w : World) (hs : s.size ≤ 140737488351232) (hv : Vs w) : Calls Tryz.prog 7 #[.string s] w (LRet w s.data.toList) := by
  obtain ⟨W, hW, szW, belW, rb⟩ := blk_step w #[.int .i64 0, .int .i64 0, .int .i64 0, .int .i64 0, .string ⟨#[]⟩, .slice none 0 0] 24
  have z := sx_of rb
  obtain ⟨z0, z1, z2, z3, z4, z5⟩ := z
  have p0 := blk_froz rb 0; have p1 := blk_froz rb 1; have p2 := blk_froz rb 2; have p3 := blk_froz rb 3; have p4 := blk_froz rb 4; have p5 := blk_froz rb 5
  have x0 := set_same rb (j := 0) (u := .int .i64 0) rfl; have x1 := set_same rb (j := 1) (u := .int .i64 0) rfl; have x2 := set_same rb (j := 2) (u := .int .i64 0) rfl
  have x3 := set_same rb (j := 3) (u := .int .i64 0) rfl; have x4 := set_same rb (j := 4) (u := .string ⟨#[]⟩) rfl; have x5 := set_same rb (j := 5) (u := .slice none 0 0) rfl
  have hsz := Lib.size_eq s
  by_cases hlong : 65536 < s.size
  · have hl' : (65536 : Int) < s.size := by omega
    have T := hide (lret_no (w := w) (w' := W) (s := s.data.toList) (e := 3) (.inl ⟨by omega, rfl, rfl, rfl⟩) belW)
    clear rb belW hsz
    go_enter Tryz.func7, Tryz.ntmps7
    go_wp2
    refine bodyPost_ret (v := .tuple #[.agg #[.int .i64 0, .int .i64 0, .int .i64 0, .int .i64 0, .string ⟨#[]⟩, .slice none 0 0], .bool false, .int .i64 3]) (by simp [results, Tryz.results7, go_sem, z0, z1, z2, z3, z4, z5]) rfl ?_
    exact T.out
  have hl' : ¬ (65536 : Int) < s.size := by omega
  have hls := hide (show s.data.toList.length ≤ 65536 by omega)
  clear hsz
  go_enter Tryz.func7, Tryz.ntmps7
  go_wp2_with fail
  refine (fields_any s W (by omega)).mono ?_
  rintro E w1 ⟨A, ws, rfl, hw, hc, b1⟩
  have sz1 := b1.size
  have bel1 := belW.trans (b1.mono (by omega))
  have hwn : ws.length = (Sct.wds s.data.toList).length := by rw [← hw]; simp [wl]
  have hwl : ws.length ≤ 65536 := by
    have := (wdsA_len s.data.toList []).1
    have h2 := hls.out
    rw [hwn]
    simp only [List.length_nil, Nat.zero_add] at this
    exact Nat.le_trans this h2
  have hwz : ∀ u ∈ ws, u.size ≤ 65536 := fun u hu => by
    have h1 := (wdsA_len s.data.toList []).2 u.data.toList (by show _ ∈ Sct.wds _; rw [← hw]; exact List.mem_map.2 ⟨u, hu, rfl⟩)
    have h2 := hls.out
    rw [Lib.size_eq]
    simp only [List.length_nil, Nat.zero_add] at h1
    exact Nat.le_trans h1 h2
  replace rb := (b1.block w.heap.size (by omega)).trans rb
  have z := sx_of rb
  clear z0 z1 z2 z3 z4 z5 p0 p1 p2 p3 p4 p5 x0 x1 x2 x3 x4 x5
  obtain ⟨z0, z1, z2, z3, z4, z5⟩ := z
  have p0 := blk_froz rb 0; have p1 := blk_froz rb 1; have p2 := blk_froz rb 2; have p3 := blk_froz rb 3; have p4 := blk_froz rb 4; have p5 := blk_froz rb 5
  have x0 := set_same rb (j := 0) (u := .int .i64 0) rfl; have x1 := set_same rb (j := 1) (u := .int .i64 0) rfl; have x2 := set_same rb (j := 2) (u := .int .i64 0) rfl
  have x3 := set_same rb (j := 3) (u := .int .i64 0) rfl; have x4 := set_same rb (j := 4) (u := .string ⟨#[]⟩) rfl; have x5 := set_same rb (j := 5) (u := .slice none 0 0) rfl
  have HW := hide hw
  have REM : Hid (Sct.Rem s.data.toList → LRet w s.data.toList (.returned (.tuple #[.agg #[.int .i64 0, .int .i64 0, .int .i64 0, .int .i64 0, .string ⟨#[]⟩, .slice none 0 0], .bool false, .int .i64 0])) w1) := hide fun h => lret_no (.inr (.inl ⟨hls.out, h, rfl, rfl, rfl⟩)) bel1
  clear hw hwn
  cases ws with
  | nil =>
    have T := hide (REM.out (.inl HW.out.symm))
    have hz0 : (([] : List ByteArray).length : Int) = 0 := rfl
    clear rb belW b1 bel1 REM hc hwz
    go_wp2
    refine bodyPost_ret (v := .tuple #[.agg #[.int .i64 0, .int .i64 0, .int .i64 0, .int .i64 0, .string ⟨#[]⟩, .slice none 0 0], .bool false, .int .i64 0]) (by simp [results, Tryz.results7, go_sem, z0, z1, z2, z3, z4, z5]) rfl ?_
    exact T.out
  | cons hd r =>
    have k0 : w1.cell? ⟨A, 0, none⟩ = some (.string hd) := hc 0 hd rfl
    obtain ⟨n, hn⟩ : ∃ n, (hd :: r).length = n := ⟨_, rfl⟩
    have hnp : 0 < n := by rw [← hn]; simp
    have hn0 := hide hn
    rw [hn] at hwl
    rw [hn]
    have hq0 : ((n : Int) == 0) = false := by simp; omega
    have hp : Calls Tryz.prog 23 #[.string hd, .string ⟨#[35]⟩] w1 fun E w' => E = .returned (.bool (Lib.hasPrefix hd.data.toList (⟨#[35]⟩ : ByteArray).data.toList)) ∧ w1 = w' := (Tryz.strings_HasPrefix hd ⟨#[35]⟩ w1).mono fun E w' h => ⟨h.1, h.2.symm⟩
    obtain ⟨pre, hpre⟩ : ∃ b, Lib.hasPrefix hd.data.toList (⟨#[35]⟩ : ByteArray).data.toList = b := ⟨_, rfl⟩
    rw [hpre] at hp
    have HD : Hid (pre = true ↔ hd.data.toList.head? = some 35) := hide (by
      rw [← hpre]
      unfold Lib.hasPrefix
      cases e : hd.data.toList with
      | nil => exact ⟨fun h => (by cases h), fun h => (by cases h)⟩
      | cons c q =>
        show ((35 == c) && true) = true ↔ some c = some 35
        rw [Bool.and_true, beq_iff_eq]
        exact ⟨fun h => by rw [← h], fun h => (Option.some.inj h).symm⟩)
    clear hpre
    cases pre
    · have hrem := hide (show ¬ Sct.Rem s.data.toList from fun hR => by
        rcases hR with e | ⟨x, q, e, hh⟩
        · rw [← HW.out] at e
          simp [wl] at e
        · rw [← HW.out] at e
          simp only [wl, List.map_cons, List.cons.injEq] at e
          rw [← e.1] at hh
          have := HD.out.2 hh
          cases this)
      obtain ⟨w2, hw2, s2, b2, gb⟩ := blk_step w1 #[.slice (some ⟨A, 0, none⟩) n n, .bool false] 55
      have R2 : Rd w1 w2 w1.heap.size (hd :: r) false := ⟨some ⟨A, 0, none⟩, n, Nat.le_refl _, b2, by rw [hn]; exact gb, ⟨by rw [hn]; exact Nat.le_refl _, hwl⟩, fun e => (by cases e), fun p e => ⟨A, 0, (Option.some.inj e).symm, fun j u hj => by rw [Nat.zero_add]; exact hc j u hj⟩⟩
      have i0 := blk_cell gb 0 rfl; have i1 := blk_cell gb 1 rfl
      have j0 := blk_froz gb 0; have j1 := blk_froz gb 1
      have s0 := set_same gb (j := 0) (u := .slice (some ⟨A, 0, none⟩) n n) rfl; have s1 := set_same gb (j := 1) (u := .bool false) rfl
      have V1 := hide (hv.below bel1)
      have rb2 := (b2.block w.heap.size (by omega)).trans rb
      have bel2 := bel1.trans (b2.mono (by omega))
      have HWZ := hide hwz
      have HWL := hide hwl
      clear z0 z1 z2 z3 z4 z5 p0 p1 p2 p3 p4 p5 x0 x1 x2 x3 x4 x5 rb belW b1 bel1 REM hc hwz hwl hn b2 gb
      go_wp2_with (go_at_call 23; refine hp.mono ?_; rintro E wx ⟨rfl, rfl⟩)
      refine (ract_any w1 w2 w1.heap.size (hd :: r) V1.out HWZ.out (by rw [hn0.out]; exact HWL.out) (by simp) R2).mono ?_
      rintro E w3 ⟨a, v, ws', bad', rfl, own, P, R3, G3⟩
      obtain ⟨oa, oc, hov, _, _⟩ := own.is.shape
      subst hov
      have g3 := G3.size
      have rb3 := (G3.block w.heap.size (by omega) (by simp; omega)).trans rb2
      have bel3 : Below w.heap.size w w3 := bel2.grown G3 (by omega) (fun k hk => by cases hk; omega)
      have hx1 : w1.heap.size < w3.heap.size := by omega
      obtain ⟨a3, c3, Q3⟩ := R3
      obtain ⟨V', hV', gV, rb4, ⟨o0, o1, o2, o3, o4, o5⟩, fr, ⟨y0, y1, y2, y3, y4, y5⟩⟩ := putz rb3 (.int .i64 a.k) (.int .i64 a.u) (.int .i64 a.n) (.int .i64 a.t) (.string a.key) (.slice oa a.ops.length oc)
      have f0 := fr 0; have f1 := fr 1; have f2 := fr 2; have f3 := fr 3; have f4 := fr 4; have f5 := fr 5
      have gb4 := (gV.block w1.heap.size hx1 (by simp; omega)).trans Q3.blk
      obtain ⟨m, hm⟩ : ∃ m, ws'.length = m := ⟨_, rfl⟩
      rw [hm] at gb4
      have HM := hide hm
      clear hm
      have e0 : V'.cell? ⟨w1.heap.size, 0, none⟩ = some (.slice a3 m c3) := blk_cell gb4 0 rfl
      have e1 : V'.cell? ⟨w1.heap.size, 1, none⟩ = some (.bool bad') := blk_cell gb4 1 rfl
      have bel4 : Below w.heap.size w V' := below_put bel3 gV (Nat.le_refl _) (by omega)
      have own4 := hide ((own_kg own gV (by omega)).rebase (base' := w.heap.size) (by omega))
      have g4 := gV.size
      have PP := hide P
      have B4 := hide bel4
      have NO := hide (show (∀ b, Sct.Ok b → Sct.txt b ≠ Sct.wds s.data.toList) → ∀ X, Below w.heap.size w X → LRet w s.data.toList (.returned (.tuple #[.agg #[.int .i64 0, .int .i64 0, .int .i64 0, .int .i64 0, .string ⟨#[]⟩, .slice none 0 0], .bool false, .int .i64 350])) X from fun hno X hX => lret_no (.inr (.inr (.inr ⟨hls.out, hrem.out, hno, rfl, rfl, rfl⟩))) hX)
      unfold acv acc
      clear own P bel2 bel3 bel4 Q3 G3 gV rb2 rb3 fr gb4 R2
      cases hbd : bad'
      case true =>
        rw [hbd] at e1
        have T := hide (NO.out (fun b hb hw => by have := (PP.out.cmp b hb (hw.trans HW.out.symm)).2.2; rw [hbd] at this; cases this))
        obtain ⟨V2, hV2, gV2, rb5, ⟨q0, q1, q2, q3, q4, q5⟩, fr2, ⟨z0, z1, z2, z3, z4, z5⟩⟩ := putz rb4 (.int .i64 0) (.int .i64 0) (.int .i64 0) (.int .i64 0) (.string ⟨#[]⟩) (.slice none 0 0)
        have h0 := fr2 0; have h1 := fr2 1; have h2 := fr2 2; have h3 := fr2 3; have h4 := fr2 4; have h5 := fr2 5
        have T2 := hide (T.out V2 (below_put B4.out gV2 (Nat.le_refl _) (by omega)))
        clear fr2 gV2 rb5 rb4
        go_wp2
        refine bodyPost_ret (v := .tuple #[.agg #[.int .i64 0, .int .i64 0, .int .i64 0, .int .i64 0, .string ⟨#[]⟩, .slice none 0 0], .bool false, .int .i64 350]) (by simp [results, Tryz.results7, go_sem, z0, z1, z2, z3, z4, z5]) rfl ?_
        exact T2.out
      rw [hbd] at e1
      by_cases hws : ws' = []
      case neg =>
        have hpos : (0 : Int) < m := by have := List.length_pos_iff.2 hws; have := HM.out; omega
        have T := hide (NO.out (fun b hb hw => hws (PP.out.cmp b hb (hw.trans HW.out.symm)).2.1))
        obtain ⟨V2, hV2, gV2, rb5, ⟨q0, q1, q2, q3, q4, q5⟩, fr2, ⟨z0, z1, z2, z3, z4, z5⟩⟩ := putz rb4 (.int .i64 0) (.int .i64 0) (.int .i64 0) (.int .i64 0) (.string ⟨#[]⟩) (.slice none 0 0)
        have h0 := fr2 0; have h1 := fr2 1; have h2 := fr2 2; have h3 := fr2 3; have h4 := fr2 4; have h5 := fr2 5
        have T2 := hide (T.out V2 (below_put B4.out gV2 (Nat.le_refl _) (by omega)))
        clear fr2 gV2 rb5 rb4 hws
        go_wp2
        refine bodyPost_ret (v := .tuple #[.agg #[.int .i64 0, .int .i64 0, .int .i64 0, .int .i64 0, .string ⟨#[]⟩, .slice none 0 0], .bool false, .int .i64 350]) (by simp [results, Tryz.results7, go_sem, z0, z1, z2, z3, z4, z5]) rfl ?_
        exact T2.out
      have hz0 : m = 0 := by have := HM.out; rw [hws] at this; exact this.symm
      subst hz0
      have CH := hide (chkP_any a (.slice oa a.ops.length oc) V' own4.out.is (fun o ho => by have := PP.out.ops.1 o ho; omega) (by have := PP.out.ops.2; omega) (by have := PP.out.key; omega))
      have HWS := hide hws
      clear hws
      unfold acv acc at CH
      go_wp2_with fail
      refine CH.out.mono ?_
      rintro E w5 ⟨hE, b5⟩
      have B5 := hide (B4.out.trans (b5.mono (by omega)))
      have g5 := b5.size
      replace rb4 := (b5.block w.heap.size (by omega)).trans rb4
      have own5 := hide (own4.out.below b5)
      rcases hE with ⟨hok, rfl⟩ | ⟨hok, rfl⟩
      · have y := sx_of rb4
        clear y0 y1 y2 y3 y4 y5 f0 f1 f2 f3 f4 f5
        obtain ⟨y0, y1, y2, y3, y4, y5⟩ := y
        have f0 := blk_froz rb4 0; have f1 := blk_froz rb4 1; have f2 := blk_froz rb4 2; have f3 := blk_froz rb4 3; have f4 := blk_froz rb4 4; have f5 := blk_froz rb4 5
        have x0 := set_same rb4 (j := 0) (u := .int .i64 a.k) rfl; have x1 := set_same rb4 (j := 1) (u := .int .i64 a.u) rfl; have x2 := set_same rb4 (j := 2) (u := .int .i64 a.n) rfl; have x3 := set_same rb4 (j := 3) (u := .int .i64 a.t) rfl; have x4 := set_same rb4 (j := 4) (u := .string a.key) rfl; have x5 := set_same rb4 (j := 5) (u := .slice oa a.ops.length oc) rfl
        have T := hide (show LRet w s.data.toList (.returned (.tuple #[.agg #[.int .i64 a.k, .int .i64 a.u, .int .i64 a.n, .int .i64 a.t, .string a.key, .slice oa a.ops.length oc], .bool true, .int .i64 0])) w5 from ⟨a, _, true, 0, rfl, own5.out, .inr (.inr (.inl ⟨hls.out, hrem.out, hok, (PP.out.snd hbd HWS.out hok).trans HW.out, rfl, rfl⟩)), B5.out⟩)
        clear b5 rb4 hok
        go_wp2
        refine bodyPost_ret (v := .tuple #[.agg #[.int .i64 a.k, .int .i64 a.u, .int .i64 a.n, .int .i64 a.t, .string a.key, .slice oa a.ops.length oc], .bool true, .int .i64 0]) (by simp [results, Tryz.results7, go_sem, y0, y1, y2, y3, y4, y5]) rfl ?_
        exact T.out
      · have T := hide (NO.out (fun b hb hw => hok (by rw [(PP.out.cmp b hb (hw.trans HW.out.symm)).1]; exact hb)))
        obtain ⟨V2, hV2, gV2, rb5, ⟨q0, q1, q2, q3, q4, q5⟩, fr2, ⟨z0, z1, z2, z3, z4, z5⟩⟩ := putz rb4 (.int .i64 0) (.int .i64 0) (.int .i64 0) (.int .i64 0) (.string ⟨#[]⟩) (.slice none 0 0)
        have h0 := fr2 0; have h1 := fr2 1; have h2 := fr2 2; have h3 := fr2 3; have h4 := fr2 4; have h5 := fr2 5
        have T2 := hide (T.out V2 (below_put B5.out gV2 (Nat.le_refl _) (by omega)))
        clear fr2 gV2 rb5 rb4 b5 hok
        go_wp2
        refine bodyPost_ret (v := .tuple #[.agg #[.int .i64 0, .int .i64 0, .int .i64 0, .int .i64 0, .string ⟨#[]⟩, .slice none 0 0], .bool false, .int .i64 350]) (by simp [results, Tryz.results7, go_sem, z0, z1, z2, z3, z4, z5]) rfl ?_
        exact T2.out
    · have T := hide (REM.out (.inr ⟨hd.data.toList, wl r, HW.out.symm, HD.out.1 rfl⟩))
      clear rb belW b1 bel1 REM hc hwz hwl hn
      go_wp2_with (go_at_call 23; refine hp.mono ?_; rintro E wx ⟨rfl, rfl⟩)
      refine bodyPost_ret (v := .tuple #[.agg #[.int .i64 0, .int .i64 0, .int .i64 0, .int .i64 0, .string ⟨#[]⟩, .slice none 0 0], .bool false, .int .i64 0]) (by simp [results, Tryz.results7, go_sem, z0, z1, z2, z3, z4, z5]) rfl ?_
      exact T.out

end Go.Proofs.YtdlogcdpapknaaaGreatDoor
