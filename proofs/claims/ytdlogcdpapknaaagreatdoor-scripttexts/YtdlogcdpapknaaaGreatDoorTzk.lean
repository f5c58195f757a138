/- The document's act: of a kind and of words (layer 25). -/
import Derived.Test.YtdlogcdpapknaaaGreatDoorZE
import Derived.Test.YtdlogcdpapknaaaGreatDoorTzf
import Derived.Test.YtdlogcdpapknaaaGreatDoorSxl
import Derived.Test.YtdlogcdpapknaaaGreatDoorSxu
import Derived.Deep.CutRange
namespace Go.Proofs.YtdlogcdpapknaaaGreatDoor
open Go.RowKit
set_option linter.unusedVariables false
set_option maxRecDepth 100000

/-- What act comes to, of words W. -/
def ActR (K : Int) (W : List (List UInt8)) (a : Sct.Av) (ok : Bool) : Prop := (ok = true ∧ a.k = K ∧ Sct.Ok a ∧ Sct.tail a = W) ∨ (ok = false ∧ NoA K W)
def ActE (K : Int) (W : List (List UInt8)) (w : World) (E : Ending) (w' : World) : Prop := ∃ a v ok, E = .returned (.tuple #[acv a v, .bool ok]) ∧ OwnO 77 w.heap.size w' v a.ops ∧ ActR K W a ok ∧ Below w.heap.size w w'

theorem Tryz.enters76 : ∀ args w, (callFunc 76 args).run Tryz.prog w = .ok (.enter 76 args) w := enters_of Tryz.func76 (by kernel_rfl) rfl

theorem wl_word {ws : List ByteArray} {i : Nat} {x : ByteArray} (h : ws[i]? = some x) : (wl ws)[i]? = some x.data.toList := by unfold wl; rw [List.getElem?_map, h]; rfl
theorem wl_len (ws : List ByteArray) : (wl ws).length = ws.length := by unfold wl; rw [List.length_map]
theorem gcells_fsc : ∀ l : List ByteArray, gcells fsc l = l.map Value.string
  | [] => rfl
  | x :: r => by rw [gcells, gcells_fsc r]; rfl
theorem wl_split {α : Type} {W : List α} {x : α} (h : W[0]? = some x) : [x] ++ W.drop 1 = W := by
  cases W with
  | nil => simp at h
  | cons a r =>
    obtain rfl : a = x := by simpa using h
    rfl
theorem wl_lit1 {α : Type} {W : List α} {x : α} (h : W.length = 1) (h0 : W[0]? = some x) : W = [x] := by
  rcases W with _ | ⟨a, _ | ⟨b, r⟩⟩ <;> simp at h h0
  rw [h0]
theorem wl_lit2 {α : Type} {W : List α} {x y : α} (h : W.length = 2) (h0 : W[0]? = some x) (h1 : W[1]? = some y) : W = [x, y] := by
  rcases W with _ | ⟨a, _ | ⟨b, _ | ⟨c, r⟩⟩⟩ <;> simp at h h0 h1
  rw [h0, h1]
theorem wl_lit3 {α : Type} {W : List α} {x y z : α} (h : W.length = 3) (h0 : W[0]? = some x) (h1 : W[1]? = some y) (h2 : W[2]? = some z) : W = [x, y, z] := by
  rcases W with _ | ⟨a, _ | ⟨b, _ | ⟨c, _ | ⟨d, r⟩⟩⟩⟩ <;> simp at h h0 h1 h2
  rw [h0, h1, h2]
theorem opw_pos {l : List Bm.Ov} (h : Bm.chkL l = 0) : 0 < (Sct.opw l).length := by
  cases l with
  | nil => exact absurd h (by decide)
  | cons o r =>
    unfold Sct.opw
    split <;> simp
theorem ok_o {K : Int} {l : List UInt8} (h : shp K = l) (ho : (111 : UInt8) ∈ l) {b : Sct.Av} (hb : Sct.Ok b) (hk : b.k = K) : Bm.chkL b.ops = 0 := by
  have h3 := hb.ops
  rw [hk, (shp_h h).2.2.2.2, decide_eq_true ho, if_pos rfl] at h3
  exact h3
theorem ok_k {K : Int} {l : List UInt8} (h : shp K = l) (ho : (107 : UInt8) ∈ l) {b : Sct.Av} (hb : Sct.Ok b) (hk : b.k = K) : Om.chk false b.key.data.toList [] = 0 := by
  have h3 := hb.key
  rw [hk, (shp_h h).2.1, decide_eq_true ho, if_pos rfl] at h3
  exact h3

set_option maxHeartbeats 4000000 in
theorem actR_z (K : Int) (v : Value) (ws : List ByteArray) (w : World) (hK : 1 ≤ K ∧ K ≤ 12) (hs : shp K = []) (h : RowG fsc w v ws) (hz : ∀ s ∈ ws, s.size ≤ 65536) (hl : ws.length ≤ 65536) : Calls Tryz.prog 39 #[.int .i64 K, v] w (ActE K (wl ws) w) := by
  obtain ⟨W1, hw1, s1, b1, rb1⟩ := blk_step w #[.int .i64 0, .int .i64 0, .int .i64 0, .int .i64 0, .string ⟨#[]⟩, .slice none 0 0] 24
  obtain ⟨W2, hw2, s2, b2, ab⟩ := blk_step W1 #[.int .i64 0, .int .i64 0, .int .i64 0, .int .i64 0, .string ⟨#[]⟩, .slice none 0 0] 24
  have AT := hide (fun W (hW : Below w.heap.size w W) (hne : 0 < ws.length) => (h.below hW).full fsc_len (by decide) hne)
  have HR := hide h
  have HSP := hide hs
  have HZ := hide hz
  obtain ⟨oa, oc, rfl, _, _⟩ := h.shape
  obtain ⟨n, hn⟩ : ∃ n, ws.length = n := ⟨_, rfl⟩
  have HN := hide hn
  have HLW : Hid ((wl ws).length = n) := hide (by rw [wl_len]; exact hn)
  rw [hn] at hl AT HR ⊢
  rw [s1] at b2 ab
  have SHP := hide (fun W => shapeR_any K W)
  rw [hs] at SHP
  clear h hz hn
  go_enter Tryz.func39, Tryz.ntmps39
  obtain ⟨V0, hv0, gv0, ab2, ⟨g0, g1, g2, g3, g4, g5⟩, fr0, _⟩ := putz ab (.int .i64 K) (.int .i64 0) (.int .i64 0) (.int .i64 0) (.string ⟨#[]⟩) (.slice none 0 0)
  have p0 := fr0 0; have p1 := fr0 1; have p2 := fr0 2; have p3 := fr0 3; have p4 := fr0 4; have p5 := fr0 5
  have AB := hide ab2
  have BL := hide (below_put (b1.trans (b2.mono (by omega))) gv0 (by omega) (by omega))
  have RB : Hid (V0.heap[w.heap.size]? = some (.cells #[.int .i64 0, .int .i64 0, .int .i64 0, .int .i64 0, .string ⟨#[]⟩, .slice none 0 0] 24 (0, 0))) := hide ((gv0.block w.heap.size (by omega) (by simp)).trans ((b2.block w.heap.size (by omega)).trans rb1))
  clear b1 b2 rb1 ab ab2 gv0 fr0
  go_wp2_with fail
  refine (SHP.out _).mono ?_
  rintro E Wx ⟨rfl, rfl⟩
  rw [show (⟨([] : List UInt8).toArray⟩ : ByteArray) = ⟨#[]⟩ from rfl]
  clear SHP g0 g1 g2 g3 g4 g5 p0 p1 p2 p3 p4 p5
  go_wp2
  refine wp_loop_rounds 1 ?_
  rw [rounds_succ]
  by_cases hqe : n = 0
  · have hqf : ((n : Int) == 0) = true := by simp; omega
    obtain ⟨V, hV, gV, rbV, ⟨o0, o1, o2, o3, o4, o5⟩, fr, ⟨y0, y1, y2, y3, y4, y5⟩⟩ := putz RB.out (.int .i64 K) (.int .i64 0) (.int .i64 0) (.int .i64 0) (.string ⟨#[]⟩) (.slice none 0 0)
    have f0 := fr 0; have f1 := fr 1; have f2 := fr 2; have f3 := fr 3; have f4 := fr 4; have f5 := fr 5
    have Q := sx_of AB.out
    obtain ⟨q0, q1, q2, q3, q4, q5⟩ := Q
    have FF := hide (show ActE K (wl ws) w (.returned (.tuple #[.agg #[.int .i64 K, .int .i64 0, .int .i64 0, .int .i64 0, .string ⟨#[]⟩, .slice none 0 0], .bool true])) V from ⟨⟨K, 0, 0, 0, ⟨#[]⟩, []⟩, .slice none 0 0, true, rfl, OwnO.nil _ _ _, .inl ⟨rfl, rfl, ok_of HSP.out hK (by decide) (by decide) (by decide) (.inr rfl) (.inr rfl) (.inr rfl) (.inr ⟨by decide, rfl⟩) (.inr ⟨by decide, rfl⟩), by rw [tail_z HSP.out _ rfl]; show [] = _; exact (List.eq_nil_of_length_eq_zero (by rw [HLW.out]; exact hqe)).symm⟩, below_put BL.out gV (Nat.le_refl _) BL.out.size⟩)
    clear rbV gV fr
    go_wp2
    refine bodyPost_ret (v := .tuple #[.agg #[.int .i64 K, .int .i64 0, .int .i64 0, .int .i64 0, .string ⟨#[]⟩, .slice none 0 0], .bool true]) (by simp [results, Tryz.results39, go_sem, y0, y1, y2, y3, y4, y5]) rfl ?_
    exact FF.out
  · have hqf : ((n : Int) == 0) = false := by simp; omega
    obtain ⟨V, hV, gV, rbV, ⟨o0, o1, o2, o3, o4, o5⟩, fr, ⟨y0, y1, y2, y3, y4, y5⟩⟩ := putz RB.out (.int .i64 K) (.int .i64 0) (.int .i64 0) (.int .i64 0) (.string ⟨#[]⟩) (.slice none 0 0)
    have f0 := fr 0; have f1 := fr 1; have f2 := fr 2; have f3 := fr 3; have f4 := fr 4; have f5 := fr 5
    have Q := sx_of AB.out
    obtain ⟨q0, q1, q2, q3, q4, q5⟩ := Q
    have FF := hide (show ActE K (wl ws) w (.returned (.tuple #[.agg #[.int .i64 K, .int .i64 0, .int .i64 0, .int .i64 0, .string ⟨#[]⟩, .slice none 0 0], .bool false])) V from ⟨⟨K, 0, 0, 0, ⟨#[]⟩, []⟩, .slice none 0 0, false, rfl, OwnO.nil _ _ _, .inr ⟨rfl, fun b hb hk he => by have h1 := congrArg List.length he; rw [tail_z HSP.out b hk, HLW.out] at h1; simp at h1; omega⟩, below_put BL.out gV (Nat.le_refl _) BL.out.size⟩)
    clear rbV gV fr
    go_wp2
    refine bodyPost_ret (v := .tuple #[.agg #[.int .i64 K, .int .i64 0, .int .i64 0, .int .i64 0, .string ⟨#[]⟩, .slice none 0 0], .bool false]) (by simp [results, Tryz.results39, go_sem, y0, y1, y2, y3, y4, y5]) rfl ?_
    exact FF.out

set_option maxHeartbeats 4000000 in
theorem actR_n (K : Int) (v : Value) (ws : List ByteArray) (w : World) (hK : 1 ≤ K ∧ K ≤ 12) (hs : shp K = [110]) (h : RowG fsc w v ws) (hz : ∀ s ∈ ws, s.size ≤ 65536) (hl : ws.length ≤ 65536) : Calls Tryz.prog 39 #[.int .i64 K, v] w (ActE K (wl ws) w) := by
  obtain ⟨W1, hw1, s1, b1, rb1⟩ := blk_step w #[.int .i64 0, .int .i64 0, .int .i64 0, .int .i64 0, .string ⟨#[]⟩, .slice none 0 0] 24
  obtain ⟨W2, hw2, s2, b2, ab⟩ := blk_step W1 #[.int .i64 0, .int .i64 0, .int .i64 0, .int .i64 0, .string ⟨#[]⟩, .slice none 0 0] 24
  have AT := hide (fun W (hW : Below w.heap.size w W) (hne : 0 < ws.length) => (h.below hW).full fsc_len (by decide) hne)
  have HR := hide h
  have HSP := hide hs
  have HZ := hide hz
  obtain ⟨oa, oc, rfl, _, _⟩ := h.shape
  obtain ⟨n, hn⟩ : ∃ n, ws.length = n := ⟨_, rfl⟩
  have HN := hide hn
  have HLW : Hid ((wl ws).length = n) := hide (by rw [wl_len]; exact hn)
  rw [hn] at hl AT HR ⊢
  rw [s1] at b2 ab
  have SHP := hide (fun W => shapeR_any K W)
  rw [hs] at SHP
  clear h hz hn
  go_enter Tryz.func39, Tryz.ntmps39
  obtain ⟨V0, hv0, gv0, ab2, ⟨g0, g1, g2, g3, g4, g5⟩, fr0, _⟩ := putz ab (.int .i64 K) (.int .i64 0) (.int .i64 0) (.int .i64 0) (.string ⟨#[]⟩) (.slice none 0 0)
  have p0 := fr0 0; have p1 := fr0 1; have p2 := fr0 2; have p3 := fr0 3; have p4 := fr0 4; have p5 := fr0 5
  have AB := hide ab2
  have BL := hide (below_put (b1.trans (b2.mono (by omega))) gv0 (by omega) (by omega))
  have RB : Hid (V0.heap[w.heap.size]? = some (.cells #[.int .i64 0, .int .i64 0, .int .i64 0, .int .i64 0, .string ⟨#[]⟩, .slice none 0 0] 24 (0, 0))) := hide ((gv0.block w.heap.size (by omega) (by simp)).trans ((b2.block w.heap.size (by omega)).trans rb1))
  clear b1 b2 rb1 ab ab2 gv0 fr0
  go_wp2_with fail
  refine (SHP.out _).mono ?_
  rintro E Wx ⟨rfl, rfl⟩
  rw [show (⟨([110] : List UInt8).toArray⟩ : ByteArray) = ⟨#[110]⟩ from rfl]
  clear SHP g0 g1 g2 g3 g4 g5 p0 p1 p2 p3 p4 p5
  go_wp2
  refine wp_loop_rounds 2 ?_
  rw [rounds_succ]
  by_cases hq0 : (n : Int) ≤ 0
  · obtain ⟨V, hV, gV, rbV, ⟨o0, o1, o2, o3, o4, o5⟩, fr, ⟨y0, y1, y2, y3, y4, y5⟩⟩ := putz RB.out (.int .i64 K) (.int .i64 0) (.int .i64 0) (.int .i64 0) (.string ⟨#[]⟩) (.slice none 0 0)
    have f0 := fr 0; have f1 := fr 1; have f2 := fr 2; have f3 := fr 3; have f4 := fr 4; have f5 := fr 5
    have Q := sx_of AB.out
    obtain ⟨q0, q1, q2, q3, q4, q5⟩ := Q
    have FF := hide (show ActE K (wl ws) w (.returned (.tuple #[.agg #[.int .i64 K, .int .i64 0, .int .i64 0, .int .i64 0, .string ⟨#[]⟩, .slice none 0 0], .bool false])) V from ⟨⟨K, 0, 0, 0, ⟨#[]⟩, []⟩, .slice none 0 0, false, rfl, OwnO.nil _ _ _, .inr ⟨rfl, fun b hb hk he => by have h1 := congrArg List.length he; rw [tail_n HSP.out b hk, HLW.out] at h1; simp at h1; omega⟩, below_put BL.out gV (Nat.le_refl _) BL.out.size⟩)
    clear rbV gV fr
    go_wp2
    refine bodyPost_ret (v := .tuple #[.agg #[.int .i64 K, .int .i64 0, .int .i64 0, .int .i64 0, .string ⟨#[]⟩, .slice none 0 0], .bool false]) (by simp [results, Tryz.results39, go_sem, y0, y1, y2, y3, y4, y5]) rfl ?_
    exact FF.out
  · skip
    have hnn0 : 0 < n := by omega
    obtain ⟨b, off, cap, hvv, hc0, hc1, hc2, hc⟩ := AT.out V0 BL.out (by have := HN.out; omega)
    cases hvv
    obtain ⟨x0, hx0⟩ : ∃ x, ws[0]? = some x := ⟨ws[0]'(by have := HN.out; omega), List.getElem?_eq_getElem _⟩
    have hxz0 : x0.size ≤ 65536 := HZ.out x0 (List.mem_of_getElem? hx0)
    have cx : V0.cell? ⟨b, off, none⟩ = some (.string x0) := by simpa using hc 0 x0 hx0 0 (.string x0) rfl
    have HX0 := hide (wl_word hx0)
    have ONE : Hid (Calls Tryz.prog 76 #[.pointer (some ⟨w.heap.size + 1, 0, none⟩), .int .u8 110, .string x0] V0.drew fun E w' => ∃ v, E = .returned v ∧ ∃ m ok, v = .bool ok ∧ ONum x0.data.toList 1 m ok ∧ w'.heap[w.heap.size + 1]? = some (.cells #[.int .i64 K, .int .i64 m, .int .i64 0, .int .i64 0, .string ⟨#[]⟩, .slice none 0 0] 24 (0, 0)) ∧ V0.drew.grownBy w' (some (w.heap.size + 1))) := hide ((oneR_n (w.heap.size + 1) x0 V0.drew K (0) (0) (0) (⟨#[]⟩) (.slice none 0 0) hxz0 AB.out).mono (by rintro E w' ⟨m, ok, rfl, h⟩; exact ⟨_, rfl, m, ok, rfl, h⟩))
    clear hc hx0
    go_wp2_with fail
    go_cut [49] from 41 to 49 (fun v49 wx => ∃ (m : Int) (ok : Bool), v49 = .bool (!ok) ∧ Hid (ONum x0.data.toList 1 m ok ∧ wx.heap[w.heap.size + 1]? = some (.cells #[.int .i64 K, .int .i64 m, .int .i64 0, .int .i64 0, .string ⟨#[]⟩, .slice none 0 0] 24 (0, 0)) ∧ V0.grownBy wx (some (w.heap.size + 1))))
    case first =>
      go_region_law (refine call_sx rfl 76 #[.tmp 6, .tmp 43, .tmp 47] #[136, 5, 9] rfl Tryz.enters76 #[.pointer (some ⟨w.heap.size + 1, 0, none⟩), .int .u8 110, .string x0] (by first | rfl | (simp [Act.eval]; done) | (simp [Act.eval]; rfl)) ONE.out ?_; rintro _ z0 ⟨m0, ok0, rfl, on0, ab0, gy0⟩; have REL := hide (And.intro on0 (And.intro ab0 (grown_trans (grown_drewN V0 1 _) gy0))); clear gy0 on0 ab0)
      all_goals
        go_wp2
        go_meet
        case rel => exact ⟨m0, ok0, rfl, REL⟩
    obtain ⟨m0, ok0, rfl, hrl0⟩ := hcut
    obtain ⟨z0, rfl⟩ : ∃ z, z = wc := ⟨_, rfl⟩
    obtain ⟨on0, ab0, gz0⟩ := hrl0.out
    clear hrl0
    have RB0 : Hid (z0.heap[w.heap.size]? = some (.cells #[.int .i64 0, .int .i64 0, .int .i64 0, .int .i64 0, .string ⟨#[]⟩, .slice none 0 0] 24 (0, 0))) := hide ((gz0.block w.heap.size (blk_lt RB.out) (by simp)).trans RB.out)
    have BL0 := hide (below_put BL.out gz0 (by omega) BL.out.size)
    clear cx ONE AB RB BL gz0
    have AB := hide ab0
    have RB := RB0
    have BL := BL0
    clear ab0 RB0 BL0
    have ON0 := hide on0
    clear on0
    cases ok0
    · obtain ⟨V, hV, gV, rbV, ⟨o0, o1, o2, o3, o4, o5⟩, fr, ⟨y0, y1, y2, y3, y4, y5⟩⟩ := putz RB.out (.int .i64 K) (.int .i64 m0) (.int .i64 0) (.int .i64 0) (.string ⟨#[]⟩) (.slice none 0 0)
      have f0 := fr 0; have f1 := fr 1; have f2 := fr 2; have f3 := fr 3; have f4 := fr 4; have f5 := fr 5
      have Q := sx_of AB.out
      obtain ⟨q0, q1, q2, q3, q4, q5⟩ := Q
      have FF := hide (show ActE K (wl ws) w (.returned (.tuple #[.agg #[.int .i64 K, .int .i64 m0, .int .i64 0, .int .i64 0, .string ⟨#[]⟩, .slice none 0 0], .bool false])) V from ⟨⟨K, m0, 0, 0, ⟨#[]⟩, []⟩, .slice none 0 0, false, rfl, OwnO.nil _ _ _, .inr ⟨rfl, fun b hb hk he => by have h1 := HX0.out; rw [← he, tail_n HSP.out b hk] at h1; rcases ON0.out.2 with ⟨h2, _⟩ | ⟨_, h2⟩; cases h2; exact h2 b.u.toNat (by have := hb.u; omega) (Option.some.inj h1)⟩, below_put BL.out gV (Nat.le_refl _) BL.out.size⟩)
      clear rbV gV fr
      go_wp2
      refine bodyPost_ret (v := .tuple #[.agg #[.int .i64 K, .int .i64 m0, .int .i64 0, .int .i64 0, .string ⟨#[]⟩, .slice none 0 0], .bool false]) (by simp [results, Tryz.results39, go_sem, y0, y1, y2, y3, y4, y5]) rfl ?_
      exact FF.out
    · have NW0 : Hid (Sct.dg m0.toNat = x0.data.toList) := hide (by rcases ON0.out.2 with ⟨_, _, h1⟩ | ⟨h1, _⟩; exact h1; cases h1)
      go_wp2
      rw [rounds_succ]
      by_cases hqe : n = 1
      · have hqf : ((n : Int) == 1) = true := by simp; omega
        obtain ⟨V, hV, gV, rbV, ⟨o0, o1, o2, o3, o4, o5⟩, fr, ⟨y0, y1, y2, y3, y4, y5⟩⟩ := putz RB.out (.int .i64 K) (.int .i64 m0) (.int .i64 0) (.int .i64 0) (.string ⟨#[]⟩) (.slice none 0 0)
        have f0 := fr 0; have f1 := fr 1; have f2 := fr 2; have f3 := fr 3; have f4 := fr 4; have f5 := fr 5
        have Q := sx_of AB.out
        obtain ⟨q0, q1, q2, q3, q4, q5⟩ := Q
        have FF := hide (show ActE K (wl ws) w (.returned (.tuple #[.agg #[.int .i64 K, .int .i64 m0, .int .i64 0, .int .i64 0, .string ⟨#[]⟩, .slice none 0 0], .bool true])) V from ⟨⟨K, m0, 0, 0, ⟨#[]⟩, []⟩, .slice none 0 0, true, rfl, OwnO.nil _ _ _, .inl ⟨rfl, rfl, ok_of HSP.out hK ⟨ON0.out.1.1, by rcases ON0.out.2 with ⟨_, h1, _⟩ | ⟨h1, _⟩; exact h1; cases h1⟩ (by decide) (by decide) (.inl (by decide)) (.inr rfl) (.inr rfl) (.inr ⟨by decide, rfl⟩) (.inr ⟨by decide, rfl⟩), by rw [tail_n HSP.out _ rfl]; show [Sct.dg m0.toNat] = _; rw [NW0.out]; exact (wl_lit1 (by rw [HLW.out]; exact hqe) HX0.out).symm⟩, below_put BL.out gV (Nat.le_refl _) BL.out.size⟩)
        clear rbV gV fr
        go_wp2
        refine bodyPost_ret (v := .tuple #[.agg #[.int .i64 K, .int .i64 m0, .int .i64 0, .int .i64 0, .string ⟨#[]⟩, .slice none 0 0], .bool true]) (by simp [results, Tryz.results39, go_sem, y0, y1, y2, y3, y4, y5]) rfl ?_
        exact FF.out
      · have hqf : ((n : Int) == 1) = false := by simp; omega
        obtain ⟨V, hV, gV, rbV, ⟨o0, o1, o2, o3, o4, o5⟩, fr, ⟨y0, y1, y2, y3, y4, y5⟩⟩ := putz RB.out (.int .i64 K) (.int .i64 m0) (.int .i64 0) (.int .i64 0) (.string ⟨#[]⟩) (.slice none 0 0)
        have f0 := fr 0; have f1 := fr 1; have f2 := fr 2; have f3 := fr 3; have f4 := fr 4; have f5 := fr 5
        have Q := sx_of AB.out
        obtain ⟨q0, q1, q2, q3, q4, q5⟩ := Q
        have FF := hide (show ActE K (wl ws) w (.returned (.tuple #[.agg #[.int .i64 K, .int .i64 m0, .int .i64 0, .int .i64 0, .string ⟨#[]⟩, .slice none 0 0], .bool false])) V from ⟨⟨K, m0, 0, 0, ⟨#[]⟩, []⟩, .slice none 0 0, false, rfl, OwnO.nil _ _ _, .inr ⟨rfl, fun b hb hk he => by have h1 := congrArg List.length he; rw [tail_n HSP.out b hk, HLW.out] at h1; simp at h1; omega⟩, below_put BL.out gV (Nat.le_refl _) BL.out.size⟩)
        clear rbV gV fr
        go_wp2
        refine bodyPost_ret (v := .tuple #[.agg #[.int .i64 K, .int .i64 m0, .int .i64 0, .int .i64 0, .string ⟨#[]⟩, .slice none 0 0], .bool false]) (by simp [results, Tryz.results39, go_sem, y0, y1, y2, y3, y4, y5]) rfl ?_
        exact FF.out

set_option maxHeartbeats 4000000 in
theorem actR_a (K : Int) (v : Value) (ws : List ByteArray) (w : World) (hK : 1 ≤ K ∧ K ≤ 12) (hs : shp K = [97]) (h : RowG fsc w v ws) (hz : ∀ s ∈ ws, s.size ≤ 65536) (hl : ws.length ≤ 65536) : Calls Tryz.prog 39 #[.int .i64 K, v] w (ActE K (wl ws) w) := by
  obtain ⟨W1, hw1, s1, b1, rb1⟩ := blk_step w #[.int .i64 0, .int .i64 0, .int .i64 0, .int .i64 0, .string ⟨#[]⟩, .slice none 0 0] 24
  obtain ⟨W2, hw2, s2, b2, ab⟩ := blk_step W1 #[.int .i64 0, .int .i64 0, .int .i64 0, .int .i64 0, .string ⟨#[]⟩, .slice none 0 0] 24
  have AT := hide (fun W (hW : Below w.heap.size w W) (hne : 0 < ws.length) => (h.below hW).full fsc_len (by decide) hne)
  have HR := hide h
  have HSP := hide hs
  have HZ := hide hz
  obtain ⟨oa, oc, rfl, _, _⟩ := h.shape
  obtain ⟨n, hn⟩ : ∃ n, ws.length = n := ⟨_, rfl⟩
  have HN := hide hn
  have HLW : Hid ((wl ws).length = n) := hide (by rw [wl_len]; exact hn)
  rw [hn] at hl AT HR ⊢
  rw [s1] at b2 ab
  have SHP := hide (fun W => shapeR_any K W)
  rw [hs] at SHP
  clear h hz hn
  go_enter Tryz.func39, Tryz.ntmps39
  obtain ⟨V0, hv0, gv0, ab2, ⟨g0, g1, g2, g3, g4, g5⟩, fr0, _⟩ := putz ab (.int .i64 K) (.int .i64 0) (.int .i64 0) (.int .i64 0) (.string ⟨#[]⟩) (.slice none 0 0)
  have p0 := fr0 0; have p1 := fr0 1; have p2 := fr0 2; have p3 := fr0 3; have p4 := fr0 4; have p5 := fr0 5
  have AB := hide ab2
  have BL := hide (below_put (b1.trans (b2.mono (by omega))) gv0 (by omega) (by omega))
  have RB : Hid (V0.heap[w.heap.size]? = some (.cells #[.int .i64 0, .int .i64 0, .int .i64 0, .int .i64 0, .string ⟨#[]⟩, .slice none 0 0] 24 (0, 0))) := hide ((gv0.block w.heap.size (by omega) (by simp)).trans ((b2.block w.heap.size (by omega)).trans rb1))
  clear b1 b2 rb1 ab ab2 gv0 fr0
  go_wp2_with fail
  refine (SHP.out _).mono ?_
  rintro E Wx ⟨rfl, rfl⟩
  rw [show (⟨([97] : List UInt8).toArray⟩ : ByteArray) = ⟨#[97]⟩ from rfl]
  clear SHP g0 g1 g2 g3 g4 g5 p0 p1 p2 p3 p4 p5
  go_wp2
  refine wp_loop_rounds 2 ?_
  rw [rounds_succ]
  by_cases hq0 : (n : Int) ≤ 0
  · obtain ⟨V, hV, gV, rbV, ⟨o0, o1, o2, o3, o4, o5⟩, fr, ⟨y0, y1, y2, y3, y4, y5⟩⟩ := putz RB.out (.int .i64 K) (.int .i64 0) (.int .i64 0) (.int .i64 0) (.string ⟨#[]⟩) (.slice none 0 0)
    have f0 := fr 0; have f1 := fr 1; have f2 := fr 2; have f3 := fr 3; have f4 := fr 4; have f5 := fr 5
    have Q := sx_of AB.out
    obtain ⟨q0, q1, q2, q3, q4, q5⟩ := Q
    have FF := hide (show ActE K (wl ws) w (.returned (.tuple #[.agg #[.int .i64 K, .int .i64 0, .int .i64 0, .int .i64 0, .string ⟨#[]⟩, .slice none 0 0], .bool false])) V from ⟨⟨K, 0, 0, 0, ⟨#[]⟩, []⟩, .slice none 0 0, false, rfl, OwnO.nil _ _ _, .inr ⟨rfl, fun b hb hk he => by have h1 := congrArg List.length he; rw [tail_a HSP.out b hk, HLW.out] at h1; simp at h1; omega⟩, below_put BL.out gV (Nat.le_refl _) BL.out.size⟩)
    clear rbV gV fr
    go_wp2
    refine bodyPost_ret (v := .tuple #[.agg #[.int .i64 K, .int .i64 0, .int .i64 0, .int .i64 0, .string ⟨#[]⟩, .slice none 0 0], .bool false]) (by simp [results, Tryz.results39, go_sem, y0, y1, y2, y3, y4, y5]) rfl ?_
    exact FF.out
  · skip
    have hnn0 : 0 < n := by omega
    obtain ⟨b, off, cap, hvv, hc0, hc1, hc2, hc⟩ := AT.out V0 BL.out (by have := HN.out; omega)
    cases hvv
    obtain ⟨x0, hx0⟩ : ∃ x, ws[0]? = some x := ⟨ws[0]'(by have := HN.out; omega), List.getElem?_eq_getElem _⟩
    have hxz0 : x0.size ≤ 65536 := HZ.out x0 (List.mem_of_getElem? hx0)
    have cx : V0.cell? ⟨b, off, none⟩ = some (.string x0) := by simpa using hc 0 x0 hx0 0 (.string x0) rfl
    have HX0 := hide (wl_word hx0)
    have ONE : Hid (Calls Tryz.prog 76 #[.pointer (some ⟨w.heap.size + 1, 0, none⟩), .int .u8 97, .string x0] V0.drew fun E w' => ∃ v, E = .returned v ∧ ∃ m ok, v = .bool ok ∧ ONum x0.data.toList 999999999 m ok ∧ w'.heap[w.heap.size + 1]? = some (.cells #[.int .i64 K, .int .i64 0, .int .i64 m, .int .i64 0, .string ⟨#[]⟩, .slice none 0 0] 24 (0, 0)) ∧ V0.drew.grownBy w' (some (w.heap.size + 1))) := hide ((oneR_a (w.heap.size + 1) x0 V0.drew K (0) (0) (0) (⟨#[]⟩) (.slice none 0 0) hxz0 AB.out).mono (by rintro E w' ⟨m, ok, rfl, h⟩; exact ⟨_, rfl, m, ok, rfl, h⟩))
    clear hc hx0
    go_wp2_with fail
    go_cut [49] from 41 to 49 (fun v49 wx => ∃ (m : Int) (ok : Bool), v49 = .bool (!ok) ∧ Hid (ONum x0.data.toList 999999999 m ok ∧ wx.heap[w.heap.size + 1]? = some (.cells #[.int .i64 K, .int .i64 0, .int .i64 m, .int .i64 0, .string ⟨#[]⟩, .slice none 0 0] 24 (0, 0)) ∧ V0.grownBy wx (some (w.heap.size + 1))))
    case first =>
      go_region_law (refine call_sx rfl 76 #[.tmp 6, .tmp 43, .tmp 47] #[136, 5, 9] rfl Tryz.enters76 #[.pointer (some ⟨w.heap.size + 1, 0, none⟩), .int .u8 97, .string x0] (by first | rfl | (simp [Act.eval]; done) | (simp [Act.eval]; rfl)) ONE.out ?_; rintro _ z0 ⟨m0, ok0, rfl, on0, ab0, gy0⟩; have REL := hide (And.intro on0 (And.intro ab0 (grown_trans (grown_drewN V0 1 _) gy0))); clear gy0 on0 ab0)
      all_goals
        go_wp2
        go_meet
        case rel => exact ⟨m0, ok0, rfl, REL⟩
    obtain ⟨m0, ok0, rfl, hrl0⟩ := hcut
    obtain ⟨z0, rfl⟩ : ∃ z, z = wc := ⟨_, rfl⟩
    obtain ⟨on0, ab0, gz0⟩ := hrl0.out
    clear hrl0
    have RB0 : Hid (z0.heap[w.heap.size]? = some (.cells #[.int .i64 0, .int .i64 0, .int .i64 0, .int .i64 0, .string ⟨#[]⟩, .slice none 0 0] 24 (0, 0))) := hide ((gz0.block w.heap.size (blk_lt RB.out) (by simp)).trans RB.out)
    have BL0 := hide (below_put BL.out gz0 (by omega) BL.out.size)
    clear cx ONE AB RB BL gz0
    have AB := hide ab0
    have RB := RB0
    have BL := BL0
    clear ab0 RB0 BL0
    have ON0 := hide on0
    clear on0
    cases ok0
    · obtain ⟨V, hV, gV, rbV, ⟨o0, o1, o2, o3, o4, o5⟩, fr, ⟨y0, y1, y2, y3, y4, y5⟩⟩ := putz RB.out (.int .i64 K) (.int .i64 0) (.int .i64 m0) (.int .i64 0) (.string ⟨#[]⟩) (.slice none 0 0)
      have f0 := fr 0; have f1 := fr 1; have f2 := fr 2; have f3 := fr 3; have f4 := fr 4; have f5 := fr 5
      have Q := sx_of AB.out
      obtain ⟨q0, q1, q2, q3, q4, q5⟩ := Q
      have FF := hide (show ActE K (wl ws) w (.returned (.tuple #[.agg #[.int .i64 K, .int .i64 0, .int .i64 m0, .int .i64 0, .string ⟨#[]⟩, .slice none 0 0], .bool false])) V from ⟨⟨K, 0, m0, 0, ⟨#[]⟩, []⟩, .slice none 0 0, false, rfl, OwnO.nil _ _ _, .inr ⟨rfl, fun b hb hk he => by have h1 := HX0.out; rw [← he, tail_a HSP.out b hk] at h1; rcases ON0.out.2 with ⟨h2, _⟩ | ⟨_, h2⟩; cases h2; exact h2 b.n.toNat (by have := hb.n; omega) (Option.some.inj h1)⟩, below_put BL.out gV (Nat.le_refl _) BL.out.size⟩)
      clear rbV gV fr
      go_wp2
      refine bodyPost_ret (v := .tuple #[.agg #[.int .i64 K, .int .i64 0, .int .i64 m0, .int .i64 0, .string ⟨#[]⟩, .slice none 0 0], .bool false]) (by simp [results, Tryz.results39, go_sem, y0, y1, y2, y3, y4, y5]) rfl ?_
      exact FF.out
    · have NW0 : Hid (Sct.dg m0.toNat = x0.data.toList) := hide (by rcases ON0.out.2 with ⟨_, _, h1⟩ | ⟨h1, _⟩; exact h1; cases h1)
      go_wp2
      rw [rounds_succ]
      by_cases hqe : n = 1
      · have hqf : ((n : Int) == 1) = true := by simp; omega
        obtain ⟨V, hV, gV, rbV, ⟨o0, o1, o2, o3, o4, o5⟩, fr, ⟨y0, y1, y2, y3, y4, y5⟩⟩ := putz RB.out (.int .i64 K) (.int .i64 0) (.int .i64 m0) (.int .i64 0) (.string ⟨#[]⟩) (.slice none 0 0)
        have f0 := fr 0; have f1 := fr 1; have f2 := fr 2; have f3 := fr 3; have f4 := fr 4; have f5 := fr 5
        have Q := sx_of AB.out
        obtain ⟨q0, q1, q2, q3, q4, q5⟩ := Q
        have FF := hide (show ActE K (wl ws) w (.returned (.tuple #[.agg #[.int .i64 K, .int .i64 0, .int .i64 m0, .int .i64 0, .string ⟨#[]⟩, .slice none 0 0], .bool true])) V from ⟨⟨K, 0, m0, 0, ⟨#[]⟩, []⟩, .slice none 0 0, true, rfl, OwnO.nil _ _ _, .inl ⟨rfl, rfl, ok_of HSP.out hK (by decide) ⟨ON0.out.1.1, by rcases ON0.out.2 with ⟨_, h1, _⟩ | ⟨h1, _⟩; exact h1; cases h1⟩ (by decide) (.inr rfl) (.inl (by decide)) (.inr rfl) (.inr ⟨by decide, rfl⟩) (.inr ⟨by decide, rfl⟩), by rw [tail_a HSP.out _ rfl]; show [Sct.dg m0.toNat] = _; rw [NW0.out]; exact (wl_lit1 (by rw [HLW.out]; exact hqe) HX0.out).symm⟩, below_put BL.out gV (Nat.le_refl _) BL.out.size⟩)
        clear rbV gV fr
        go_wp2
        refine bodyPost_ret (v := .tuple #[.agg #[.int .i64 K, .int .i64 0, .int .i64 m0, .int .i64 0, .string ⟨#[]⟩, .slice none 0 0], .bool true]) (by simp [results, Tryz.results39, go_sem, y0, y1, y2, y3, y4, y5]) rfl ?_
        exact FF.out
      · have hqf : ((n : Int) == 1) = false := by simp; omega
        obtain ⟨V, hV, gV, rbV, ⟨o0, o1, o2, o3, o4, o5⟩, fr, ⟨y0, y1, y2, y3, y4, y5⟩⟩ := putz RB.out (.int .i64 K) (.int .i64 0) (.int .i64 m0) (.int .i64 0) (.string ⟨#[]⟩) (.slice none 0 0)
        have f0 := fr 0; have f1 := fr 1; have f2 := fr 2; have f3 := fr 3; have f4 := fr 4; have f5 := fr 5
        have Q := sx_of AB.out
        obtain ⟨q0, q1, q2, q3, q4, q5⟩ := Q
        have FF := hide (show ActE K (wl ws) w (.returned (.tuple #[.agg #[.int .i64 K, .int .i64 0, .int .i64 m0, .int .i64 0, .string ⟨#[]⟩, .slice none 0 0], .bool false])) V from ⟨⟨K, 0, m0, 0, ⟨#[]⟩, []⟩, .slice none 0 0, false, rfl, OwnO.nil _ _ _, .inr ⟨rfl, fun b hb hk he => by have h1 := congrArg List.length he; rw [tail_a HSP.out b hk, HLW.out] at h1; simp at h1; omega⟩, below_put BL.out gV (Nat.le_refl _) BL.out.size⟩)
        clear rbV gV fr
        go_wp2
        refine bodyPost_ret (v := .tuple #[.agg #[.int .i64 K, .int .i64 0, .int .i64 m0, .int .i64 0, .string ⟨#[]⟩, .slice none 0 0], .bool false]) (by simp [results, Tryz.results39, go_sem, y0, y1, y2, y3, y4, y5]) rfl ?_
        exact FF.out

set_option maxHeartbeats 4000000 in
theorem actR_na (K : Int) (v : Value) (ws : List ByteArray) (w : World) (hK : 1 ≤ K ∧ K ≤ 12) (hs : shp K = [110, 97]) (h : RowG fsc w v ws) (hz : ∀ s ∈ ws, s.size ≤ 65536) (hl : ws.length ≤ 65536) : Calls Tryz.prog 39 #[.int .i64 K, v] w (ActE K (wl ws) w) := by
  obtain ⟨W1, hw1, s1, b1, rb1⟩ := blk_step w #[.int .i64 0, .int .i64 0, .int .i64 0, .int .i64 0, .string ⟨#[]⟩, .slice none 0 0] 24
  obtain ⟨W2, hw2, s2, b2, ab⟩ := blk_step W1 #[.int .i64 0, .int .i64 0, .int .i64 0, .int .i64 0, .string ⟨#[]⟩, .slice none 0 0] 24
  have AT := hide (fun W (hW : Below w.heap.size w W) (hne : 0 < ws.length) => (h.below hW).full fsc_len (by decide) hne)
  have HR := hide h
  have HSP := hide hs
  have HZ := hide hz
  obtain ⟨oa, oc, rfl, _, _⟩ := h.shape
  obtain ⟨n, hn⟩ : ∃ n, ws.length = n := ⟨_, rfl⟩
  have HN := hide hn
  have HLW : Hid ((wl ws).length = n) := hide (by rw [wl_len]; exact hn)
  rw [hn] at hl AT HR ⊢
  rw [s1] at b2 ab
  have SHP := hide (fun W => shapeR_any K W)
  rw [hs] at SHP
  clear h hz hn
  go_enter Tryz.func39, Tryz.ntmps39
  obtain ⟨V0, hv0, gv0, ab2, ⟨g0, g1, g2, g3, g4, g5⟩, fr0, _⟩ := putz ab (.int .i64 K) (.int .i64 0) (.int .i64 0) (.int .i64 0) (.string ⟨#[]⟩) (.slice none 0 0)
  have p0 := fr0 0; have p1 := fr0 1; have p2 := fr0 2; have p3 := fr0 3; have p4 := fr0 4; have p5 := fr0 5
  have AB := hide ab2
  have BL := hide (below_put (b1.trans (b2.mono (by omega))) gv0 (by omega) (by omega))
  have RB : Hid (V0.heap[w.heap.size]? = some (.cells #[.int .i64 0, .int .i64 0, .int .i64 0, .int .i64 0, .string ⟨#[]⟩, .slice none 0 0] 24 (0, 0))) := hide ((gv0.block w.heap.size (by omega) (by simp)).trans ((b2.block w.heap.size (by omega)).trans rb1))
  clear b1 b2 rb1 ab ab2 gv0 fr0
  go_wp2_with fail
  refine (SHP.out _).mono ?_
  rintro E Wx ⟨rfl, rfl⟩
  rw [show (⟨([110, 97] : List UInt8).toArray⟩ : ByteArray) = ⟨#[110, 97]⟩ from rfl]
  clear SHP g0 g1 g2 g3 g4 g5 p0 p1 p2 p3 p4 p5
  go_wp2
  refine wp_loop_rounds 3 ?_
  rw [rounds_succ]
  by_cases hq0 : (n : Int) ≤ 0
  · obtain ⟨V, hV, gV, rbV, ⟨o0, o1, o2, o3, o4, o5⟩, fr, ⟨y0, y1, y2, y3, y4, y5⟩⟩ := putz RB.out (.int .i64 K) (.int .i64 0) (.int .i64 0) (.int .i64 0) (.string ⟨#[]⟩) (.slice none 0 0)
    have f0 := fr 0; have f1 := fr 1; have f2 := fr 2; have f3 := fr 3; have f4 := fr 4; have f5 := fr 5
    have Q := sx_of AB.out
    obtain ⟨q0, q1, q2, q3, q4, q5⟩ := Q
    have FF := hide (show ActE K (wl ws) w (.returned (.tuple #[.agg #[.int .i64 K, .int .i64 0, .int .i64 0, .int .i64 0, .string ⟨#[]⟩, .slice none 0 0], .bool false])) V from ⟨⟨K, 0, 0, 0, ⟨#[]⟩, []⟩, .slice none 0 0, false, rfl, OwnO.nil _ _ _, .inr ⟨rfl, fun b hb hk he => by have h1 := congrArg List.length he; rw [tail_na HSP.out b hk, HLW.out] at h1; simp at h1; omega⟩, below_put BL.out gV (Nat.le_refl _) BL.out.size⟩)
    clear rbV gV fr
    go_wp2
    refine bodyPost_ret (v := .tuple #[.agg #[.int .i64 K, .int .i64 0, .int .i64 0, .int .i64 0, .string ⟨#[]⟩, .slice none 0 0], .bool false]) (by simp [results, Tryz.results39, go_sem, y0, y1, y2, y3, y4, y5]) rfl ?_
    exact FF.out
  · skip
    have hnn0 : 0 < n := by omega
    obtain ⟨b, off, cap, hvv, hc0, hc1, hc2, hc⟩ := AT.out V0 BL.out (by have := HN.out; omega)
    cases hvv
    obtain ⟨x0, hx0⟩ : ∃ x, ws[0]? = some x := ⟨ws[0]'(by have := HN.out; omega), List.getElem?_eq_getElem _⟩
    have hxz0 : x0.size ≤ 65536 := HZ.out x0 (List.mem_of_getElem? hx0)
    have cx : V0.cell? ⟨b, off, none⟩ = some (.string x0) := by simpa using hc 0 x0 hx0 0 (.string x0) rfl
    have HX0 := hide (wl_word hx0)
    have ONE : Hid (Calls Tryz.prog 76 #[.pointer (some ⟨w.heap.size + 1, 0, none⟩), .int .u8 110, .string x0] V0.drew fun E w' => ∃ v, E = .returned v ∧ ∃ m ok, v = .bool ok ∧ ONum x0.data.toList 1 m ok ∧ w'.heap[w.heap.size + 1]? = some (.cells #[.int .i64 K, .int .i64 m, .int .i64 0, .int .i64 0, .string ⟨#[]⟩, .slice none 0 0] 24 (0, 0)) ∧ V0.drew.grownBy w' (some (w.heap.size + 1))) := hide ((oneR_n (w.heap.size + 1) x0 V0.drew K (0) (0) (0) (⟨#[]⟩) (.slice none 0 0) hxz0 AB.out).mono (by rintro E w' ⟨m, ok, rfl, h⟩; exact ⟨_, rfl, m, ok, rfl, h⟩))
    clear hc hx0
    go_wp2_with fail
    go_cut [49] from 41 to 49 (fun v49 wx => ∃ (m : Int) (ok : Bool), v49 = .bool (!ok) ∧ Hid (ONum x0.data.toList 1 m ok ∧ wx.heap[w.heap.size + 1]? = some (.cells #[.int .i64 K, .int .i64 m, .int .i64 0, .int .i64 0, .string ⟨#[]⟩, .slice none 0 0] 24 (0, 0)) ∧ V0.grownBy wx (some (w.heap.size + 1))))
    case first =>
      go_region_law (refine call_sx rfl 76 #[.tmp 6, .tmp 43, .tmp 47] #[136, 5, 9] rfl Tryz.enters76 #[.pointer (some ⟨w.heap.size + 1, 0, none⟩), .int .u8 110, .string x0] (by first | rfl | (simp [Act.eval]; done) | (simp [Act.eval]; rfl)) ONE.out ?_; rintro _ z0 ⟨m0, ok0, rfl, on0, ab0, gy0⟩; have REL := hide (And.intro on0 (And.intro ab0 (grown_trans (grown_drewN V0 1 _) gy0))); clear gy0 on0 ab0)
      all_goals
        go_wp2
        go_meet
        case rel => exact ⟨m0, ok0, rfl, REL⟩
    obtain ⟨m0, ok0, rfl, hrl0⟩ := hcut
    obtain ⟨z0, rfl⟩ : ∃ z, z = wc := ⟨_, rfl⟩
    obtain ⟨on0, ab0, gz0⟩ := hrl0.out
    clear hrl0
    have RB0 : Hid (z0.heap[w.heap.size]? = some (.cells #[.int .i64 0, .int .i64 0, .int .i64 0, .int .i64 0, .string ⟨#[]⟩, .slice none 0 0] 24 (0, 0))) := hide ((gz0.block w.heap.size (blk_lt RB.out) (by simp)).trans RB.out)
    have BL0 := hide (below_put BL.out gz0 (by omega) BL.out.size)
    clear cx ONE AB RB BL gz0
    have AB := hide ab0
    have RB := RB0
    have BL := BL0
    clear ab0 RB0 BL0
    have ON0 := hide on0
    clear on0
    cases ok0
    · obtain ⟨V, hV, gV, rbV, ⟨o0, o1, o2, o3, o4, o5⟩, fr, ⟨y0, y1, y2, y3, y4, y5⟩⟩ := putz RB.out (.int .i64 K) (.int .i64 m0) (.int .i64 0) (.int .i64 0) (.string ⟨#[]⟩) (.slice none 0 0)
      have f0 := fr 0; have f1 := fr 1; have f2 := fr 2; have f3 := fr 3; have f4 := fr 4; have f5 := fr 5
      have Q := sx_of AB.out
      obtain ⟨q0, q1, q2, q3, q4, q5⟩ := Q
      have FF := hide (show ActE K (wl ws) w (.returned (.tuple #[.agg #[.int .i64 K, .int .i64 m0, .int .i64 0, .int .i64 0, .string ⟨#[]⟩, .slice none 0 0], .bool false])) V from ⟨⟨K, m0, 0, 0, ⟨#[]⟩, []⟩, .slice none 0 0, false, rfl, OwnO.nil _ _ _, .inr ⟨rfl, fun b hb hk he => by have h1 := HX0.out; rw [← he, tail_na HSP.out b hk] at h1; rcases ON0.out.2 with ⟨h2, _⟩ | ⟨_, h2⟩; cases h2; exact h2 b.u.toNat (by have := hb.u; omega) (Option.some.inj h1)⟩, below_put BL.out gV (Nat.le_refl _) BL.out.size⟩)
      clear rbV gV fr
      go_wp2
      refine bodyPost_ret (v := .tuple #[.agg #[.int .i64 K, .int .i64 m0, .int .i64 0, .int .i64 0, .string ⟨#[]⟩, .slice none 0 0], .bool false]) (by simp [results, Tryz.results39, go_sem, y0, y1, y2, y3, y4, y5]) rfl ?_
      exact FF.out
    · have NW0 : Hid (Sct.dg m0.toNat = x0.data.toList) := hide (by rcases ON0.out.2 with ⟨_, _, h1⟩ | ⟨h1, _⟩; exact h1; cases h1)
      go_wp2
      rw [rounds_succ]
      by_cases hq1 : (n : Int) ≤ 1
      · obtain ⟨V, hV, gV, rbV, ⟨o0, o1, o2, o3, o4, o5⟩, fr, ⟨y0, y1, y2, y3, y4, y5⟩⟩ := putz RB.out (.int .i64 K) (.int .i64 m0) (.int .i64 0) (.int .i64 0) (.string ⟨#[]⟩) (.slice none 0 0)
        have f0 := fr 0; have f1 := fr 1; have f2 := fr 2; have f3 := fr 3; have f4 := fr 4; have f5 := fr 5
        have Q := sx_of AB.out
        obtain ⟨q0, q1, q2, q3, q4, q5⟩ := Q
        have FF := hide (show ActE K (wl ws) w (.returned (.tuple #[.agg #[.int .i64 K, .int .i64 m0, .int .i64 0, .int .i64 0, .string ⟨#[]⟩, .slice none 0 0], .bool false])) V from ⟨⟨K, m0, 0, 0, ⟨#[]⟩, []⟩, .slice none 0 0, false, rfl, OwnO.nil _ _ _, .inr ⟨rfl, fun b hb hk he => by have h1 := congrArg List.length he; rw [tail_na HSP.out b hk, HLW.out] at h1; simp at h1; omega⟩, below_put BL.out gV (Nat.le_refl _) BL.out.size⟩)
        clear rbV gV fr
        go_wp2
        refine bodyPost_ret (v := .tuple #[.agg #[.int .i64 K, .int .i64 m0, .int .i64 0, .int .i64 0, .string ⟨#[]⟩, .slice none 0 0], .bool false]) (by simp [results, Tryz.results39, go_sem, y0, y1, y2, y3, y4, y5]) rfl ?_
        exact FF.out
      · skip
        have hnn1 : 1 < n := by omega
        obtain ⟨b, off, cap, hvv, hc0, hc1, hc2, hc⟩ := AT.out z0 BL.out (by have := HN.out; omega)
        cases hvv
        obtain ⟨x1, hx1⟩ : ∃ x, ws[1]? = some x := ⟨ws[1]'(by have := HN.out; omega), List.getElem?_eq_getElem _⟩
        have hxz1 : x1.size ≤ 65536 := HZ.out x1 (List.mem_of_getElem? hx1)
        have cx : z0.cell? ⟨b, off + 1, none⟩ = some (.string x1) := by simpa using hc 1 x1 hx1 0 (.string x1) rfl
        have HX1 := hide (wl_word hx1)
        have ONE : Hid (Calls Tryz.prog 76 #[.pointer (some ⟨w.heap.size + 1, 0, none⟩), .int .u8 97, .string x1] z0.drew fun E w' => ∃ v, E = .returned v ∧ ∃ m ok, v = .bool ok ∧ ONum x1.data.toList 999999999 m ok ∧ w'.heap[w.heap.size + 1]? = some (.cells #[.int .i64 K, .int .i64 m0, .int .i64 m, .int .i64 0, .string ⟨#[]⟩, .slice none 0 0] 24 (0, 0)) ∧ z0.drew.grownBy w' (some (w.heap.size + 1))) := hide ((oneR_a (w.heap.size + 1) x1 z0.drew K (m0) (0) (0) (⟨#[]⟩) (.slice none 0 0) hxz1 AB.out).mono (by rintro E w' ⟨m, ok, rfl, h⟩; exact ⟨_, rfl, m, ok, rfl, h⟩))
        clear hc hx1
        go_wp2_with fail
        go_cut [49] from 41 to 49 (fun v49 wx => ∃ (m : Int) (ok : Bool), v49 = .bool (!ok) ∧ Hid (ONum x1.data.toList 999999999 m ok ∧ wx.heap[w.heap.size + 1]? = some (.cells #[.int .i64 K, .int .i64 m0, .int .i64 m, .int .i64 0, .string ⟨#[]⟩, .slice none 0 0] 24 (0, 0)) ∧ z0.grownBy wx (some (w.heap.size + 1))))
        case first =>
          go_region_law (refine call_sx rfl 76 #[.tmp 6, .tmp 43, .tmp 47] #[136, 5, 9] rfl Tryz.enters76 #[.pointer (some ⟨w.heap.size + 1, 0, none⟩), .int .u8 97, .string x1] (by first | rfl | (simp [Act.eval]; done) | (simp [Act.eval]; rfl)) ONE.out ?_; rintro _ z1 ⟨m1, ok1, rfl, on1, ab1, gy1⟩; have REL := hide (And.intro on1 (And.intro ab1 (grown_trans (grown_drewN z0 1 _) gy1))); clear gy1 on1 ab1)
          all_goals
            go_wp2
            go_meet
            case rel => exact ⟨m1, ok1, rfl, REL⟩
        obtain ⟨m1, ok1, rfl, hrl1⟩ := hcut
        obtain ⟨z1, rfl⟩ : ∃ z, z = wc := ⟨_, rfl⟩
        obtain ⟨on1, ab1, gz1⟩ := hrl1.out
        clear hrl1
        have RB1 : Hid (z1.heap[w.heap.size]? = some (.cells #[.int .i64 0, .int .i64 0, .int .i64 0, .int .i64 0, .string ⟨#[]⟩, .slice none 0 0] 24 (0, 0))) := hide ((gz1.block w.heap.size (blk_lt RB.out) (by simp)).trans RB.out)
        have BL1 := hide (below_put BL.out gz1 (by omega) BL.out.size)
        clear cx ONE AB RB BL gz1
        have AB := hide ab1
        have RB := RB1
        have BL := BL1
        clear ab1 RB1 BL1
        have ON1 := hide on1
        clear on1
        cases ok1
        · obtain ⟨V, hV, gV, rbV, ⟨o0, o1, o2, o3, o4, o5⟩, fr, ⟨y0, y1, y2, y3, y4, y5⟩⟩ := putz RB.out (.int .i64 K) (.int .i64 m0) (.int .i64 m1) (.int .i64 0) (.string ⟨#[]⟩) (.slice none 0 0)
          have f0 := fr 0; have f1 := fr 1; have f2 := fr 2; have f3 := fr 3; have f4 := fr 4; have f5 := fr 5
          have Q := sx_of AB.out
          obtain ⟨q0, q1, q2, q3, q4, q5⟩ := Q
          have FF := hide (show ActE K (wl ws) w (.returned (.tuple #[.agg #[.int .i64 K, .int .i64 m0, .int .i64 m1, .int .i64 0, .string ⟨#[]⟩, .slice none 0 0], .bool false])) V from ⟨⟨K, m0, m1, 0, ⟨#[]⟩, []⟩, .slice none 0 0, false, rfl, OwnO.nil _ _ _, .inr ⟨rfl, fun b hb hk he => by have h1 := HX1.out; rw [← he, tail_na HSP.out b hk] at h1; rcases ON1.out.2 with ⟨h2, _⟩ | ⟨_, h2⟩; cases h2; exact h2 b.n.toNat (by have := hb.n; omega) (Option.some.inj h1)⟩, below_put BL.out gV (Nat.le_refl _) BL.out.size⟩)
          clear rbV gV fr
          go_wp2
          refine bodyPost_ret (v := .tuple #[.agg #[.int .i64 K, .int .i64 m0, .int .i64 m1, .int .i64 0, .string ⟨#[]⟩, .slice none 0 0], .bool false]) (by simp [results, Tryz.results39, go_sem, y0, y1, y2, y3, y4, y5]) rfl ?_
          exact FF.out
        · have NW1 : Hid (Sct.dg m1.toNat = x1.data.toList) := hide (by rcases ON1.out.2 with ⟨_, _, h1⟩ | ⟨h1, _⟩; exact h1; cases h1)
          go_wp2
          rw [rounds_succ]
          by_cases hqe : n = 2
          · have hqf : ((n : Int) == 2) = true := by simp; omega
            obtain ⟨V, hV, gV, rbV, ⟨o0, o1, o2, o3, o4, o5⟩, fr, ⟨y0, y1, y2, y3, y4, y5⟩⟩ := putz RB.out (.int .i64 K) (.int .i64 m0) (.int .i64 m1) (.int .i64 0) (.string ⟨#[]⟩) (.slice none 0 0)
            have f0 := fr 0; have f1 := fr 1; have f2 := fr 2; have f3 := fr 3; have f4 := fr 4; have f5 := fr 5
            have Q := sx_of AB.out
            obtain ⟨q0, q1, q2, q3, q4, q5⟩ := Q
            have FF := hide (show ActE K (wl ws) w (.returned (.tuple #[.agg #[.int .i64 K, .int .i64 m0, .int .i64 m1, .int .i64 0, .string ⟨#[]⟩, .slice none 0 0], .bool true])) V from ⟨⟨K, m0, m1, 0, ⟨#[]⟩, []⟩, .slice none 0 0, true, rfl, OwnO.nil _ _ _, .inl ⟨rfl, rfl, ok_of HSP.out hK ⟨ON0.out.1.1, by rcases ON0.out.2 with ⟨_, h1, _⟩ | ⟨h1, _⟩; exact h1; cases h1⟩ ⟨ON1.out.1.1, by rcases ON1.out.2 with ⟨_, h1, _⟩ | ⟨h1, _⟩; exact h1; cases h1⟩ (by decide) (.inl (by decide)) (.inl (by decide)) (.inr rfl) (.inr ⟨by decide, rfl⟩) (.inr ⟨by decide, rfl⟩), by rw [tail_na HSP.out _ rfl]; show [Sct.dg m0.toNat, Sct.dg m1.toNat] = _; rw [NW0.out]; rw [NW1.out]; exact (wl_lit2 (by rw [HLW.out]; exact hqe) HX0.out HX1.out).symm⟩, below_put BL.out gV (Nat.le_refl _) BL.out.size⟩)
            clear rbV gV fr
            go_wp2
            refine bodyPost_ret (v := .tuple #[.agg #[.int .i64 K, .int .i64 m0, .int .i64 m1, .int .i64 0, .string ⟨#[]⟩, .slice none 0 0], .bool true]) (by simp [results, Tryz.results39, go_sem, y0, y1, y2, y3, y4, y5]) rfl ?_
            exact FF.out
          · have hqf : ((n : Int) == 2) = false := by simp; omega
            obtain ⟨V, hV, gV, rbV, ⟨o0, o1, o2, o3, o4, o5⟩, fr, ⟨y0, y1, y2, y3, y4, y5⟩⟩ := putz RB.out (.int .i64 K) (.int .i64 m0) (.int .i64 m1) (.int .i64 0) (.string ⟨#[]⟩) (.slice none 0 0)
            have f0 := fr 0; have f1 := fr 1; have f2 := fr 2; have f3 := fr 3; have f4 := fr 4; have f5 := fr 5
            have Q := sx_of AB.out
            obtain ⟨q0, q1, q2, q3, q4, q5⟩ := Q
            have FF := hide (show ActE K (wl ws) w (.returned (.tuple #[.agg #[.int .i64 K, .int .i64 m0, .int .i64 m1, .int .i64 0, .string ⟨#[]⟩, .slice none 0 0], .bool false])) V from ⟨⟨K, m0, m1, 0, ⟨#[]⟩, []⟩, .slice none 0 0, false, rfl, OwnO.nil _ _ _, .inr ⟨rfl, fun b hb hk he => by have h1 := congrArg List.length he; rw [tail_na HSP.out b hk, HLW.out] at h1; simp at h1; omega⟩, below_put BL.out gV (Nat.le_refl _) BL.out.size⟩)
            clear rbV gV fr
            go_wp2
            refine bodyPost_ret (v := .tuple #[.agg #[.int .i64 K, .int .i64 m0, .int .i64 m1, .int .i64 0, .string ⟨#[]⟩, .slice none 0 0], .bool false]) (by simp [results, Tryz.results39, go_sem, y0, y1, y2, y3, y4, y5]) rfl ?_
            exact FF.out

set_option maxHeartbeats 4000000 in
theorem actR_nat (K : Int) (v : Value) (ws : List ByteArray) (w : World) (hK : 1 ≤ K ∧ K ≤ 12) (hs : shp K = [110, 97, 116]) (h : RowG fsc w v ws) (hz : ∀ s ∈ ws, s.size ≤ 65536) (hl : ws.length ≤ 65536) : Calls Tryz.prog 39 #[.int .i64 K, v] w (ActE K (wl ws) w) := by
  obtain ⟨W1, hw1, s1, b1, rb1⟩ := blk_step w #[.int .i64 0, .int .i64 0, .int .i64 0, .int .i64 0, .string ⟨#[]⟩, .slice none 0 0] 24
  obtain ⟨W2, hw2, s2, b2, ab⟩ := blk_step W1 #[.int .i64 0, .int .i64 0, .int .i64 0, .int .i64 0, .string ⟨#[]⟩, .slice none 0 0] 24
  have AT := hide (fun W (hW : Below w.heap.size w W) (hne : 0 < ws.length) => (h.below hW).full fsc_len (by decide) hne)
  have HR := hide h
  have HSP := hide hs
  have HZ := hide hz
  obtain ⟨oa, oc, rfl, _, _⟩ := h.shape
  obtain ⟨n, hn⟩ : ∃ n, ws.length = n := ⟨_, rfl⟩
  have HN := hide hn
  have HLW : Hid ((wl ws).length = n) := hide (by rw [wl_len]; exact hn)
  rw [hn] at hl AT HR ⊢
  rw [s1] at b2 ab
  have SHP := hide (fun W => shapeR_any K W)
  rw [hs] at SHP
  clear h hz hn
  go_enter Tryz.func39, Tryz.ntmps39
  obtain ⟨V0, hv0, gv0, ab2, ⟨g0, g1, g2, g3, g4, g5⟩, fr0, _⟩ := putz ab (.int .i64 K) (.int .i64 0) (.int .i64 0) (.int .i64 0) (.string ⟨#[]⟩) (.slice none 0 0)
  have p0 := fr0 0; have p1 := fr0 1; have p2 := fr0 2; have p3 := fr0 3; have p4 := fr0 4; have p5 := fr0 5
  have AB := hide ab2
  have BL := hide (below_put (b1.trans (b2.mono (by omega))) gv0 (by omega) (by omega))
  have RB : Hid (V0.heap[w.heap.size]? = some (.cells #[.int .i64 0, .int .i64 0, .int .i64 0, .int .i64 0, .string ⟨#[]⟩, .slice none 0 0] 24 (0, 0))) := hide ((gv0.block w.heap.size (by omega) (by simp)).trans ((b2.block w.heap.size (by omega)).trans rb1))
  clear b1 b2 rb1 ab ab2 gv0 fr0
  go_wp2_with fail
  refine (SHP.out _).mono ?_
  rintro E Wx ⟨rfl, rfl⟩
  rw [show (⟨([110, 97, 116] : List UInt8).toArray⟩ : ByteArray) = ⟨#[110, 97, 116]⟩ from rfl]
  clear SHP g0 g1 g2 g3 g4 g5 p0 p1 p2 p3 p4 p5
  go_wp2
  refine wp_loop_rounds 4 ?_
  rw [rounds_succ]
  by_cases hq0 : (n : Int) ≤ 0
  · obtain ⟨V, hV, gV, rbV, ⟨o0, o1, o2, o3, o4, o5⟩, fr, ⟨y0, y1, y2, y3, y4, y5⟩⟩ := putz RB.out (.int .i64 K) (.int .i64 0) (.int .i64 0) (.int .i64 0) (.string ⟨#[]⟩) (.slice none 0 0)
    have f0 := fr 0; have f1 := fr 1; have f2 := fr 2; have f3 := fr 3; have f4 := fr 4; have f5 := fr 5
    have Q := sx_of AB.out
    obtain ⟨q0, q1, q2, q3, q4, q5⟩ := Q
    have FF := hide (show ActE K (wl ws) w (.returned (.tuple #[.agg #[.int .i64 K, .int .i64 0, .int .i64 0, .int .i64 0, .string ⟨#[]⟩, .slice none 0 0], .bool false])) V from ⟨⟨K, 0, 0, 0, ⟨#[]⟩, []⟩, .slice none 0 0, false, rfl, OwnO.nil _ _ _, .inr ⟨rfl, fun b hb hk he => by have h1 := congrArg List.length he; rw [tail_nat HSP.out b hk, HLW.out] at h1; simp at h1; omega⟩, below_put BL.out gV (Nat.le_refl _) BL.out.size⟩)
    clear rbV gV fr
    go_wp2
    refine bodyPost_ret (v := .tuple #[.agg #[.int .i64 K, .int .i64 0, .int .i64 0, .int .i64 0, .string ⟨#[]⟩, .slice none 0 0], .bool false]) (by simp [results, Tryz.results39, go_sem, y0, y1, y2, y3, y4, y5]) rfl ?_
    exact FF.out
  · skip
    have hnn0 : 0 < n := by omega
    obtain ⟨b, off, cap, hvv, hc0, hc1, hc2, hc⟩ := AT.out V0 BL.out (by have := HN.out; omega)
    cases hvv
    obtain ⟨x0, hx0⟩ : ∃ x, ws[0]? = some x := ⟨ws[0]'(by have := HN.out; omega), List.getElem?_eq_getElem _⟩
    have hxz0 : x0.size ≤ 65536 := HZ.out x0 (List.mem_of_getElem? hx0)
    have cx : V0.cell? ⟨b, off, none⟩ = some (.string x0) := by simpa using hc 0 x0 hx0 0 (.string x0) rfl
    have HX0 := hide (wl_word hx0)
    have ONE : Hid (Calls Tryz.prog 76 #[.pointer (some ⟨w.heap.size + 1, 0, none⟩), .int .u8 110, .string x0] V0.drew fun E w' => ∃ v, E = .returned v ∧ ∃ m ok, v = .bool ok ∧ ONum x0.data.toList 1 m ok ∧ w'.heap[w.heap.size + 1]? = some (.cells #[.int .i64 K, .int .i64 m, .int .i64 0, .int .i64 0, .string ⟨#[]⟩, .slice none 0 0] 24 (0, 0)) ∧ V0.drew.grownBy w' (some (w.heap.size + 1))) := hide ((oneR_n (w.heap.size + 1) x0 V0.drew K (0) (0) (0) (⟨#[]⟩) (.slice none 0 0) hxz0 AB.out).mono (by rintro E w' ⟨m, ok, rfl, h⟩; exact ⟨_, rfl, m, ok, rfl, h⟩))
    clear hc hx0
    go_wp2_with fail
    go_cut [49] from 41 to 49 (fun v49 wx => ∃ (m : Int) (ok : Bool), v49 = .bool (!ok) ∧ Hid (ONum x0.data.toList 1 m ok ∧ wx.heap[w.heap.size + 1]? = some (.cells #[.int .i64 K, .int .i64 m, .int .i64 0, .int .i64 0, .string ⟨#[]⟩, .slice none 0 0] 24 (0, 0)) ∧ V0.grownBy wx (some (w.heap.size + 1))))
    case first =>
      go_region_law (refine call_sx rfl 76 #[.tmp 6, .tmp 43, .tmp 47] #[136, 5, 9] rfl Tryz.enters76 #[.pointer (some ⟨w.heap.size + 1, 0, none⟩), .int .u8 110, .string x0] (by first | rfl | (simp [Act.eval]; done) | (simp [Act.eval]; rfl)) ONE.out ?_; rintro _ z0 ⟨m0, ok0, rfl, on0, ab0, gy0⟩; have REL := hide (And.intro on0 (And.intro ab0 (grown_trans (grown_drewN V0 1 _) gy0))); clear gy0 on0 ab0)
      all_goals
        go_wp2
        go_meet
        case rel => exact ⟨m0, ok0, rfl, REL⟩
    obtain ⟨m0, ok0, rfl, hrl0⟩ := hcut
    obtain ⟨z0, rfl⟩ : ∃ z, z = wc := ⟨_, rfl⟩
    obtain ⟨on0, ab0, gz0⟩ := hrl0.out
    clear hrl0
    have RB0 : Hid (z0.heap[w.heap.size]? = some (.cells #[.int .i64 0, .int .i64 0, .int .i64 0, .int .i64 0, .string ⟨#[]⟩, .slice none 0 0] 24 (0, 0))) := hide ((gz0.block w.heap.size (blk_lt RB.out) (by simp)).trans RB.out)
    have BL0 := hide (below_put BL.out gz0 (by omega) BL.out.size)
    clear cx ONE AB RB BL gz0
    have AB := hide ab0
    have RB := RB0
    have BL := BL0
    clear ab0 RB0 BL0
    have ON0 := hide on0
    clear on0
    cases ok0
    · obtain ⟨V, hV, gV, rbV, ⟨o0, o1, o2, o3, o4, o5⟩, fr, ⟨y0, y1, y2, y3, y4, y5⟩⟩ := putz RB.out (.int .i64 K) (.int .i64 m0) (.int .i64 0) (.int .i64 0) (.string ⟨#[]⟩) (.slice none 0 0)
      have f0 := fr 0; have f1 := fr 1; have f2 := fr 2; have f3 := fr 3; have f4 := fr 4; have f5 := fr 5
      have Q := sx_of AB.out
      obtain ⟨q0, q1, q2, q3, q4, q5⟩ := Q
      have FF := hide (show ActE K (wl ws) w (.returned (.tuple #[.agg #[.int .i64 K, .int .i64 m0, .int .i64 0, .int .i64 0, .string ⟨#[]⟩, .slice none 0 0], .bool false])) V from ⟨⟨K, m0, 0, 0, ⟨#[]⟩, []⟩, .slice none 0 0, false, rfl, OwnO.nil _ _ _, .inr ⟨rfl, fun b hb hk he => by have h1 := HX0.out; rw [← he, tail_nat HSP.out b hk] at h1; rcases ON0.out.2 with ⟨h2, _⟩ | ⟨_, h2⟩; cases h2; exact h2 b.u.toNat (by have := hb.u; omega) (Option.some.inj h1)⟩, below_put BL.out gV (Nat.le_refl _) BL.out.size⟩)
      clear rbV gV fr
      go_wp2
      refine bodyPost_ret (v := .tuple #[.agg #[.int .i64 K, .int .i64 m0, .int .i64 0, .int .i64 0, .string ⟨#[]⟩, .slice none 0 0], .bool false]) (by simp [results, Tryz.results39, go_sem, y0, y1, y2, y3, y4, y5]) rfl ?_
      exact FF.out
    · have NW0 : Hid (Sct.dg m0.toNat = x0.data.toList) := hide (by rcases ON0.out.2 with ⟨_, _, h1⟩ | ⟨h1, _⟩; exact h1; cases h1)
      go_wp2
      rw [rounds_succ]
      by_cases hq1 : (n : Int) ≤ 1
      · obtain ⟨V, hV, gV, rbV, ⟨o0, o1, o2, o3, o4, o5⟩, fr, ⟨y0, y1, y2, y3, y4, y5⟩⟩ := putz RB.out (.int .i64 K) (.int .i64 m0) (.int .i64 0) (.int .i64 0) (.string ⟨#[]⟩) (.slice none 0 0)
        have f0 := fr 0; have f1 := fr 1; have f2 := fr 2; have f3 := fr 3; have f4 := fr 4; have f5 := fr 5
        have Q := sx_of AB.out
        obtain ⟨q0, q1, q2, q3, q4, q5⟩ := Q
        have FF := hide (show ActE K (wl ws) w (.returned (.tuple #[.agg #[.int .i64 K, .int .i64 m0, .int .i64 0, .int .i64 0, .string ⟨#[]⟩, .slice none 0 0], .bool false])) V from ⟨⟨K, m0, 0, 0, ⟨#[]⟩, []⟩, .slice none 0 0, false, rfl, OwnO.nil _ _ _, .inr ⟨rfl, fun b hb hk he => by have h1 := congrArg List.length he; rw [tail_nat HSP.out b hk, HLW.out] at h1; simp at h1; omega⟩, below_put BL.out gV (Nat.le_refl _) BL.out.size⟩)
        clear rbV gV fr
        go_wp2
        refine bodyPost_ret (v := .tuple #[.agg #[.int .i64 K, .int .i64 m0, .int .i64 0, .int .i64 0, .string ⟨#[]⟩, .slice none 0 0], .bool false]) (by simp [results, Tryz.results39, go_sem, y0, y1, y2, y3, y4, y5]) rfl ?_
        exact FF.out
      · skip
        have hnn1 : 1 < n := by omega
        obtain ⟨b, off, cap, hvv, hc0, hc1, hc2, hc⟩ := AT.out z0 BL.out (by have := HN.out; omega)
        cases hvv
        obtain ⟨x1, hx1⟩ : ∃ x, ws[1]? = some x := ⟨ws[1]'(by have := HN.out; omega), List.getElem?_eq_getElem _⟩
        have hxz1 : x1.size ≤ 65536 := HZ.out x1 (List.mem_of_getElem? hx1)
        have cx : z0.cell? ⟨b, off + 1, none⟩ = some (.string x1) := by simpa using hc 1 x1 hx1 0 (.string x1) rfl
        have HX1 := hide (wl_word hx1)
        have ONE : Hid (Calls Tryz.prog 76 #[.pointer (some ⟨w.heap.size + 1, 0, none⟩), .int .u8 97, .string x1] z0.drew fun E w' => ∃ v, E = .returned v ∧ ∃ m ok, v = .bool ok ∧ ONum x1.data.toList 999999999 m ok ∧ w'.heap[w.heap.size + 1]? = some (.cells #[.int .i64 K, .int .i64 m0, .int .i64 m, .int .i64 0, .string ⟨#[]⟩, .slice none 0 0] 24 (0, 0)) ∧ z0.drew.grownBy w' (some (w.heap.size + 1))) := hide ((oneR_a (w.heap.size + 1) x1 z0.drew K (m0) (0) (0) (⟨#[]⟩) (.slice none 0 0) hxz1 AB.out).mono (by rintro E w' ⟨m, ok, rfl, h⟩; exact ⟨_, rfl, m, ok, rfl, h⟩))
        clear hc hx1
        go_wp2_with fail
        go_cut [49] from 41 to 49 (fun v49 wx => ∃ (m : Int) (ok : Bool), v49 = .bool (!ok) ∧ Hid (ONum x1.data.toList 999999999 m ok ∧ wx.heap[w.heap.size + 1]? = some (.cells #[.int .i64 K, .int .i64 m0, .int .i64 m, .int .i64 0, .string ⟨#[]⟩, .slice none 0 0] 24 (0, 0)) ∧ z0.grownBy wx (some (w.heap.size + 1))))
        case first =>
          go_region_law (refine call_sx rfl 76 #[.tmp 6, .tmp 43, .tmp 47] #[136, 5, 9] rfl Tryz.enters76 #[.pointer (some ⟨w.heap.size + 1, 0, none⟩), .int .u8 97, .string x1] (by first | rfl | (simp [Act.eval]; done) | (simp [Act.eval]; rfl)) ONE.out ?_; rintro _ z1 ⟨m1, ok1, rfl, on1, ab1, gy1⟩; have REL := hide (And.intro on1 (And.intro ab1 (grown_trans (grown_drewN z0 1 _) gy1))); clear gy1 on1 ab1)
          all_goals
            go_wp2
            go_meet
            case rel => exact ⟨m1, ok1, rfl, REL⟩
        obtain ⟨m1, ok1, rfl, hrl1⟩ := hcut
        obtain ⟨z1, rfl⟩ : ∃ z, z = wc := ⟨_, rfl⟩
        obtain ⟨on1, ab1, gz1⟩ := hrl1.out
        clear hrl1
        have RB1 : Hid (z1.heap[w.heap.size]? = some (.cells #[.int .i64 0, .int .i64 0, .int .i64 0, .int .i64 0, .string ⟨#[]⟩, .slice none 0 0] 24 (0, 0))) := hide ((gz1.block w.heap.size (blk_lt RB.out) (by simp)).trans RB.out)
        have BL1 := hide (below_put BL.out gz1 (by omega) BL.out.size)
        clear cx ONE AB RB BL gz1
        have AB := hide ab1
        have RB := RB1
        have BL := BL1
        clear ab1 RB1 BL1
        have ON1 := hide on1
        clear on1
        cases ok1
        · obtain ⟨V, hV, gV, rbV, ⟨o0, o1, o2, o3, o4, o5⟩, fr, ⟨y0, y1, y2, y3, y4, y5⟩⟩ := putz RB.out (.int .i64 K) (.int .i64 m0) (.int .i64 m1) (.int .i64 0) (.string ⟨#[]⟩) (.slice none 0 0)
          have f0 := fr 0; have f1 := fr 1; have f2 := fr 2; have f3 := fr 3; have f4 := fr 4; have f5 := fr 5
          have Q := sx_of AB.out
          obtain ⟨q0, q1, q2, q3, q4, q5⟩ := Q
          have FF := hide (show ActE K (wl ws) w (.returned (.tuple #[.agg #[.int .i64 K, .int .i64 m0, .int .i64 m1, .int .i64 0, .string ⟨#[]⟩, .slice none 0 0], .bool false])) V from ⟨⟨K, m0, m1, 0, ⟨#[]⟩, []⟩, .slice none 0 0, false, rfl, OwnO.nil _ _ _, .inr ⟨rfl, fun b hb hk he => by have h1 := HX1.out; rw [← he, tail_nat HSP.out b hk] at h1; rcases ON1.out.2 with ⟨h2, _⟩ | ⟨_, h2⟩; cases h2; exact h2 b.n.toNat (by have := hb.n; omega) (Option.some.inj h1)⟩, below_put BL.out gV (Nat.le_refl _) BL.out.size⟩)
          clear rbV gV fr
          go_wp2
          refine bodyPost_ret (v := .tuple #[.agg #[.int .i64 K, .int .i64 m0, .int .i64 m1, .int .i64 0, .string ⟨#[]⟩, .slice none 0 0], .bool false]) (by simp [results, Tryz.results39, go_sem, y0, y1, y2, y3, y4, y5]) rfl ?_
          exact FF.out
        · have NW1 : Hid (Sct.dg m1.toNat = x1.data.toList) := hide (by rcases ON1.out.2 with ⟨_, _, h1⟩ | ⟨h1, _⟩; exact h1; cases h1)
          go_wp2
          rw [rounds_succ]
          by_cases hq2 : (n : Int) ≤ 2
          · obtain ⟨V, hV, gV, rbV, ⟨o0, o1, o2, o3, o4, o5⟩, fr, ⟨y0, y1, y2, y3, y4, y5⟩⟩ := putz RB.out (.int .i64 K) (.int .i64 m0) (.int .i64 m1) (.int .i64 0) (.string ⟨#[]⟩) (.slice none 0 0)
            have f0 := fr 0; have f1 := fr 1; have f2 := fr 2; have f3 := fr 3; have f4 := fr 4; have f5 := fr 5
            have Q := sx_of AB.out
            obtain ⟨q0, q1, q2, q3, q4, q5⟩ := Q
            have FF := hide (show ActE K (wl ws) w (.returned (.tuple #[.agg #[.int .i64 K, .int .i64 m0, .int .i64 m1, .int .i64 0, .string ⟨#[]⟩, .slice none 0 0], .bool false])) V from ⟨⟨K, m0, m1, 0, ⟨#[]⟩, []⟩, .slice none 0 0, false, rfl, OwnO.nil _ _ _, .inr ⟨rfl, fun b hb hk he => by have h1 := congrArg List.length he; rw [tail_nat HSP.out b hk, HLW.out] at h1; simp at h1; omega⟩, below_put BL.out gV (Nat.le_refl _) BL.out.size⟩)
            clear rbV gV fr
            go_wp2
            refine bodyPost_ret (v := .tuple #[.agg #[.int .i64 K, .int .i64 m0, .int .i64 m1, .int .i64 0, .string ⟨#[]⟩, .slice none 0 0], .bool false]) (by simp [results, Tryz.results39, go_sem, y0, y1, y2, y3, y4, y5]) rfl ?_
            exact FF.out
          · skip
            have hnn2 : 2 < n := by omega
            obtain ⟨b, off, cap, hvv, hc0, hc1, hc2, hc⟩ := AT.out z1 BL.out (by have := HN.out; omega)
            cases hvv
            obtain ⟨x2, hx2⟩ : ∃ x, ws[2]? = some x := ⟨ws[2]'(by have := HN.out; omega), List.getElem?_eq_getElem _⟩
            have hxz2 : x2.size ≤ 65536 := HZ.out x2 (List.mem_of_getElem? hx2)
            have cx : z1.cell? ⟨b, off + 2, none⟩ = some (.string x2) := by simpa using hc 2 x2 hx2 0 (.string x2) rfl
            have HX2 := hide (wl_word hx2)
            have ONE : Hid (Calls Tryz.prog 76 #[.pointer (some ⟨w.heap.size + 1, 0, none⟩), .int .u8 116, .string x2] z1.drew fun E w' => ∃ v, E = .returned v ∧ ∃ m ok, v = .bool ok ∧ ONum x2.data.toList 999999999 m ok ∧ w'.heap[w.heap.size + 1]? = some (.cells #[.int .i64 K, .int .i64 m0, .int .i64 m1, .int .i64 m, .string ⟨#[]⟩, .slice none 0 0] 24 (0, 0)) ∧ z1.drew.grownBy w' (some (w.heap.size + 1))) := hide ((oneR_t (w.heap.size + 1) x2 z1.drew K (m0) (m1) (0) (⟨#[]⟩) (.slice none 0 0) hxz2 AB.out).mono (by rintro E w' ⟨m, ok, rfl, h⟩; exact ⟨_, rfl, m, ok, rfl, h⟩))
            clear hc hx2
            go_wp2_with fail
            go_cut [49] from 41 to 49 (fun v49 wx => ∃ (m : Int) (ok : Bool), v49 = .bool (!ok) ∧ Hid (ONum x2.data.toList 999999999 m ok ∧ wx.heap[w.heap.size + 1]? = some (.cells #[.int .i64 K, .int .i64 m0, .int .i64 m1, .int .i64 m, .string ⟨#[]⟩, .slice none 0 0] 24 (0, 0)) ∧ z1.grownBy wx (some (w.heap.size + 1))))
            case first =>
              go_region_law (refine call_sx rfl 76 #[.tmp 6, .tmp 43, .tmp 47] #[136, 5, 9] rfl Tryz.enters76 #[.pointer (some ⟨w.heap.size + 1, 0, none⟩), .int .u8 116, .string x2] (by first | rfl | (simp [Act.eval]; done) | (simp [Act.eval]; rfl)) ONE.out ?_; rintro _ z2 ⟨m2, ok2, rfl, on2, ab2, gy2⟩; have REL := hide (And.intro on2 (And.intro ab2 (grown_trans (grown_drewN z1 1 _) gy2))); clear gy2 on2 ab2)
              all_goals
                go_wp2
                go_meet
                case rel => exact ⟨m2, ok2, rfl, REL⟩
            obtain ⟨m2, ok2, rfl, hrl2⟩ := hcut
            obtain ⟨z2, rfl⟩ : ∃ z, z = wc := ⟨_, rfl⟩
            obtain ⟨on2, ab2, gz2⟩ := hrl2.out
            clear hrl2
            have RB2 : Hid (z2.heap[w.heap.size]? = some (.cells #[.int .i64 0, .int .i64 0, .int .i64 0, .int .i64 0, .string ⟨#[]⟩, .slice none 0 0] 24 (0, 0))) := hide ((gz2.block w.heap.size (blk_lt RB.out) (by simp)).trans RB.out)
            have BL2 := hide (below_put BL.out gz2 (by omega) BL.out.size)
            clear cx ONE AB RB BL gz2
            have AB := hide ab2
            have RB := RB2
            have BL := BL2
            clear ab2 RB2 BL2
            have ON2 := hide on2
            clear on2
            cases ok2
            · obtain ⟨V, hV, gV, rbV, ⟨o0, o1, o2, o3, o4, o5⟩, fr, ⟨y0, y1, y2, y3, y4, y5⟩⟩ := putz RB.out (.int .i64 K) (.int .i64 m0) (.int .i64 m1) (.int .i64 m2) (.string ⟨#[]⟩) (.slice none 0 0)
              have f0 := fr 0; have f1 := fr 1; have f2 := fr 2; have f3 := fr 3; have f4 := fr 4; have f5 := fr 5
              have Q := sx_of AB.out
              obtain ⟨q0, q1, q2, q3, q4, q5⟩ := Q
              have FF := hide (show ActE K (wl ws) w (.returned (.tuple #[.agg #[.int .i64 K, .int .i64 m0, .int .i64 m1, .int .i64 m2, .string ⟨#[]⟩, .slice none 0 0], .bool false])) V from ⟨⟨K, m0, m1, m2, ⟨#[]⟩, []⟩, .slice none 0 0, false, rfl, OwnO.nil _ _ _, .inr ⟨rfl, fun b hb hk he => by have h1 := HX2.out; rw [← he, tail_nat HSP.out b hk] at h1; rcases ON2.out.2 with ⟨h2, _⟩ | ⟨_, h2⟩; cases h2; exact h2 b.t.toNat (by have := hb.t; omega) (Option.some.inj h1)⟩, below_put BL.out gV (Nat.le_refl _) BL.out.size⟩)
              clear rbV gV fr
              go_wp2
              refine bodyPost_ret (v := .tuple #[.agg #[.int .i64 K, .int .i64 m0, .int .i64 m1, .int .i64 m2, .string ⟨#[]⟩, .slice none 0 0], .bool false]) (by simp [results, Tryz.results39, go_sem, y0, y1, y2, y3, y4, y5]) rfl ?_
              exact FF.out
            · have NW2 : Hid (Sct.dg m2.toNat = x2.data.toList) := hide (by rcases ON2.out.2 with ⟨_, _, h1⟩ | ⟨h1, _⟩; exact h1; cases h1)
              go_wp2
              rw [rounds_succ]
              by_cases hqe : n = 3
              · have hqf : ((n : Int) == 3) = true := by simp; omega
                obtain ⟨V, hV, gV, rbV, ⟨o0, o1, o2, o3, o4, o5⟩, fr, ⟨y0, y1, y2, y3, y4, y5⟩⟩ := putz RB.out (.int .i64 K) (.int .i64 m0) (.int .i64 m1) (.int .i64 m2) (.string ⟨#[]⟩) (.slice none 0 0)
                have f0 := fr 0; have f1 := fr 1; have f2 := fr 2; have f3 := fr 3; have f4 := fr 4; have f5 := fr 5
                have Q := sx_of AB.out
                obtain ⟨q0, q1, q2, q3, q4, q5⟩ := Q
                have FF := hide (show ActE K (wl ws) w (.returned (.tuple #[.agg #[.int .i64 K, .int .i64 m0, .int .i64 m1, .int .i64 m2, .string ⟨#[]⟩, .slice none 0 0], .bool true])) V from ⟨⟨K, m0, m1, m2, ⟨#[]⟩, []⟩, .slice none 0 0, true, rfl, OwnO.nil _ _ _, .inl ⟨rfl, rfl, ok_of HSP.out hK ⟨ON0.out.1.1, by rcases ON0.out.2 with ⟨_, h1, _⟩ | ⟨h1, _⟩; exact h1; cases h1⟩ ⟨ON1.out.1.1, by rcases ON1.out.2 with ⟨_, h1, _⟩ | ⟨h1, _⟩; exact h1; cases h1⟩ ⟨ON2.out.1.1, by rcases ON2.out.2 with ⟨_, h1, _⟩ | ⟨h1, _⟩; exact h1; cases h1⟩ (.inl (by decide)) (.inl (by decide)) (.inl (by decide)) (.inr ⟨by decide, rfl⟩) (.inr ⟨by decide, rfl⟩), by rw [tail_nat HSP.out _ rfl]; show [Sct.dg m0.toNat, Sct.dg m1.toNat, Sct.dg m2.toNat] = _; rw [NW0.out]; rw [NW1.out]; rw [NW2.out]; exact (wl_lit3 (by rw [HLW.out]; exact hqe) HX0.out HX1.out HX2.out).symm⟩, below_put BL.out gV (Nat.le_refl _) BL.out.size⟩)
                clear rbV gV fr
                go_wp2
                refine bodyPost_ret (v := .tuple #[.agg #[.int .i64 K, .int .i64 m0, .int .i64 m1, .int .i64 m2, .string ⟨#[]⟩, .slice none 0 0], .bool true]) (by simp [results, Tryz.results39, go_sem, y0, y1, y2, y3, y4, y5]) rfl ?_
                exact FF.out
              · have hqf : ((n : Int) == 3) = false := by simp; omega
                obtain ⟨V, hV, gV, rbV, ⟨o0, o1, o2, o3, o4, o5⟩, fr, ⟨y0, y1, y2, y3, y4, y5⟩⟩ := putz RB.out (.int .i64 K) (.int .i64 m0) (.int .i64 m1) (.int .i64 m2) (.string ⟨#[]⟩) (.slice none 0 0)
                have f0 := fr 0; have f1 := fr 1; have f2 := fr 2; have f3 := fr 3; have f4 := fr 4; have f5 := fr 5
                have Q := sx_of AB.out
                obtain ⟨q0, q1, q2, q3, q4, q5⟩ := Q
                have FF := hide (show ActE K (wl ws) w (.returned (.tuple #[.agg #[.int .i64 K, .int .i64 m0, .int .i64 m1, .int .i64 m2, .string ⟨#[]⟩, .slice none 0 0], .bool false])) V from ⟨⟨K, m0, m1, m2, ⟨#[]⟩, []⟩, .slice none 0 0, false, rfl, OwnO.nil _ _ _, .inr ⟨rfl, fun b hb hk he => by have h1 := congrArg List.length he; rw [tail_nat HSP.out b hk, HLW.out] at h1; simp at h1; omega⟩, below_put BL.out gV (Nat.le_refl _) BL.out.size⟩)
                clear rbV gV fr
                go_wp2
                refine bodyPost_ret (v := .tuple #[.agg #[.int .i64 K, .int .i64 m0, .int .i64 m1, .int .i64 m2, .string ⟨#[]⟩, .slice none 0 0], .bool false]) (by simp [results, Tryz.results39, go_sem, y0, y1, y2, y3, y4, y5]) rfl ?_
                exact FF.out

set_option maxHeartbeats 4000000 in
theorem actR_nk (K : Int) (v : Value) (ws : List ByteArray) (w : World) (hK : 1 ≤ K ∧ K ≤ 12) (hs : shp K = [110, 107]) (h : RowG fsc w v ws) (hz : ∀ s ∈ ws, s.size ≤ 65536) (hl : ws.length ≤ 65536) : Calls Tryz.prog 39 #[.int .i64 K, v] w (ActE K (wl ws) w) := by
  obtain ⟨W1, hw1, s1, b1, rb1⟩ := blk_step w #[.int .i64 0, .int .i64 0, .int .i64 0, .int .i64 0, .string ⟨#[]⟩, .slice none 0 0] 24
  obtain ⟨W2, hw2, s2, b2, ab⟩ := blk_step W1 #[.int .i64 0, .int .i64 0, .int .i64 0, .int .i64 0, .string ⟨#[]⟩, .slice none 0 0] 24
  have AT := hide (fun W (hW : Below w.heap.size w W) (hne : 0 < ws.length) => (h.below hW).full fsc_len (by decide) hne)
  have HR := hide h
  have HSP := hide hs
  have HZ := hide hz
  obtain ⟨oa, oc, rfl, _, _⟩ := h.shape
  obtain ⟨n, hn⟩ : ∃ n, ws.length = n := ⟨_, rfl⟩
  have HN := hide hn
  have HLW : Hid ((wl ws).length = n) := hide (by rw [wl_len]; exact hn)
  rw [hn] at hl AT HR ⊢
  rw [s1] at b2 ab
  have SHP := hide (fun W => shapeR_any K W)
  rw [hs] at SHP
  clear h hz hn
  go_enter Tryz.func39, Tryz.ntmps39
  obtain ⟨V0, hv0, gv0, ab2, ⟨g0, g1, g2, g3, g4, g5⟩, fr0, _⟩ := putz ab (.int .i64 K) (.int .i64 0) (.int .i64 0) (.int .i64 0) (.string ⟨#[]⟩) (.slice none 0 0)
  have p0 := fr0 0; have p1 := fr0 1; have p2 := fr0 2; have p3 := fr0 3; have p4 := fr0 4; have p5 := fr0 5
  have AB := hide ab2
  have BL := hide (below_put (b1.trans (b2.mono (by omega))) gv0 (by omega) (by omega))
  have RB : Hid (V0.heap[w.heap.size]? = some (.cells #[.int .i64 0, .int .i64 0, .int .i64 0, .int .i64 0, .string ⟨#[]⟩, .slice none 0 0] 24 (0, 0))) := hide ((gv0.block w.heap.size (by omega) (by simp)).trans ((b2.block w.heap.size (by omega)).trans rb1))
  clear b1 b2 rb1 ab ab2 gv0 fr0
  go_wp2_with fail
  refine (SHP.out _).mono ?_
  rintro E Wx ⟨rfl, rfl⟩
  rw [show (⟨([110, 107] : List UInt8).toArray⟩ : ByteArray) = ⟨#[110, 107]⟩ from rfl]
  clear SHP g0 g1 g2 g3 g4 g5 p0 p1 p2 p3 p4 p5
  go_wp2
  refine wp_loop_rounds 3 ?_
  rw [rounds_succ]
  by_cases hq0 : (n : Int) ≤ 0
  · obtain ⟨V, hV, gV, rbV, ⟨o0, o1, o2, o3, o4, o5⟩, fr, ⟨y0, y1, y2, y3, y4, y5⟩⟩ := putz RB.out (.int .i64 K) (.int .i64 0) (.int .i64 0) (.int .i64 0) (.string ⟨#[]⟩) (.slice none 0 0)
    have f0 := fr 0; have f1 := fr 1; have f2 := fr 2; have f3 := fr 3; have f4 := fr 4; have f5 := fr 5
    have Q := sx_of AB.out
    obtain ⟨q0, q1, q2, q3, q4, q5⟩ := Q
    have FF := hide (show ActE K (wl ws) w (.returned (.tuple #[.agg #[.int .i64 K, .int .i64 0, .int .i64 0, .int .i64 0, .string ⟨#[]⟩, .slice none 0 0], .bool false])) V from ⟨⟨K, 0, 0, 0, ⟨#[]⟩, []⟩, .slice none 0 0, false, rfl, OwnO.nil _ _ _, .inr ⟨rfl, fun b hb hk he => by have h1 := congrArg List.length he; rw [tail_nk HSP.out b hk, HLW.out] at h1; simp at h1; omega⟩, below_put BL.out gV (Nat.le_refl _) BL.out.size⟩)
    clear rbV gV fr
    go_wp2
    refine bodyPost_ret (v := .tuple #[.agg #[.int .i64 K, .int .i64 0, .int .i64 0, .int .i64 0, .string ⟨#[]⟩, .slice none 0 0], .bool false]) (by simp [results, Tryz.results39, go_sem, y0, y1, y2, y3, y4, y5]) rfl ?_
    exact FF.out
  · skip
    have hnn0 : 0 < n := by omega
    obtain ⟨b, off, cap, hvv, hc0, hc1, hc2, hc⟩ := AT.out V0 BL.out (by have := HN.out; omega)
    cases hvv
    obtain ⟨x0, hx0⟩ : ∃ x, ws[0]? = some x := ⟨ws[0]'(by have := HN.out; omega), List.getElem?_eq_getElem _⟩
    have hxz0 : x0.size ≤ 65536 := HZ.out x0 (List.mem_of_getElem? hx0)
    have cx : V0.cell? ⟨b, off, none⟩ = some (.string x0) := by simpa using hc 0 x0 hx0 0 (.string x0) rfl
    have HX0 := hide (wl_word hx0)
    have ONE : Hid (Calls Tryz.prog 76 #[.pointer (some ⟨w.heap.size + 1, 0, none⟩), .int .u8 110, .string x0] V0.drew fun E w' => ∃ v, E = .returned v ∧ ∃ m ok, v = .bool ok ∧ ONum x0.data.toList 1 m ok ∧ w'.heap[w.heap.size + 1]? = some (.cells #[.int .i64 K, .int .i64 m, .int .i64 0, .int .i64 0, .string ⟨#[]⟩, .slice none 0 0] 24 (0, 0)) ∧ V0.drew.grownBy w' (some (w.heap.size + 1))) := hide ((oneR_n (w.heap.size + 1) x0 V0.drew K (0) (0) (0) (⟨#[]⟩) (.slice none 0 0) hxz0 AB.out).mono (by rintro E w' ⟨m, ok, rfl, h⟩; exact ⟨_, rfl, m, ok, rfl, h⟩))
    clear hc hx0
    go_wp2_with fail
    go_cut [49] from 41 to 49 (fun v49 wx => ∃ (m : Int) (ok : Bool), v49 = .bool (!ok) ∧ Hid (ONum x0.data.toList 1 m ok ∧ wx.heap[w.heap.size + 1]? = some (.cells #[.int .i64 K, .int .i64 m, .int .i64 0, .int .i64 0, .string ⟨#[]⟩, .slice none 0 0] 24 (0, 0)) ∧ V0.grownBy wx (some (w.heap.size + 1))))
    case first =>
      go_region_law (refine call_sx rfl 76 #[.tmp 6, .tmp 43, .tmp 47] #[136, 5, 9] rfl Tryz.enters76 #[.pointer (some ⟨w.heap.size + 1, 0, none⟩), .int .u8 110, .string x0] (by first | rfl | (simp [Act.eval]; done) | (simp [Act.eval]; rfl)) ONE.out ?_; rintro _ z0 ⟨m0, ok0, rfl, on0, ab0, gy0⟩; have REL := hide (And.intro on0 (And.intro ab0 (grown_trans (grown_drewN V0 1 _) gy0))); clear gy0 on0 ab0)
      all_goals
        go_wp2
        go_meet
        case rel => exact ⟨m0, ok0, rfl, REL⟩
    obtain ⟨m0, ok0, rfl, hrl0⟩ := hcut
    obtain ⟨z0, rfl⟩ : ∃ z, z = wc := ⟨_, rfl⟩
    obtain ⟨on0, ab0, gz0⟩ := hrl0.out
    clear hrl0
    have RB0 : Hid (z0.heap[w.heap.size]? = some (.cells #[.int .i64 0, .int .i64 0, .int .i64 0, .int .i64 0, .string ⟨#[]⟩, .slice none 0 0] 24 (0, 0))) := hide ((gz0.block w.heap.size (blk_lt RB.out) (by simp)).trans RB.out)
    have BL0 := hide (below_put BL.out gz0 (by omega) BL.out.size)
    clear cx ONE AB RB BL gz0
    have AB := hide ab0
    have RB := RB0
    have BL := BL0
    clear ab0 RB0 BL0
    have ON0 := hide on0
    clear on0
    cases ok0
    · obtain ⟨V, hV, gV, rbV, ⟨o0, o1, o2, o3, o4, o5⟩, fr, ⟨y0, y1, y2, y3, y4, y5⟩⟩ := putz RB.out (.int .i64 K) (.int .i64 m0) (.int .i64 0) (.int .i64 0) (.string ⟨#[]⟩) (.slice none 0 0)
      have f0 := fr 0; have f1 := fr 1; have f2 := fr 2; have f3 := fr 3; have f4 := fr 4; have f5 := fr 5
      have Q := sx_of AB.out
      obtain ⟨q0, q1, q2, q3, q4, q5⟩ := Q
      have FF := hide (show ActE K (wl ws) w (.returned (.tuple #[.agg #[.int .i64 K, .int .i64 m0, .int .i64 0, .int .i64 0, .string ⟨#[]⟩, .slice none 0 0], .bool false])) V from ⟨⟨K, m0, 0, 0, ⟨#[]⟩, []⟩, .slice none 0 0, false, rfl, OwnO.nil _ _ _, .inr ⟨rfl, fun b hb hk he => by have h1 := HX0.out; rw [← he, tail_nk HSP.out b hk] at h1; rcases ON0.out.2 with ⟨h2, _⟩ | ⟨_, h2⟩; cases h2; exact h2 b.u.toNat (by have := hb.u; omega) (Option.some.inj h1)⟩, below_put BL.out gV (Nat.le_refl _) BL.out.size⟩)
      clear rbV gV fr
      go_wp2
      refine bodyPost_ret (v := .tuple #[.agg #[.int .i64 K, .int .i64 m0, .int .i64 0, .int .i64 0, .string ⟨#[]⟩, .slice none 0 0], .bool false]) (by simp [results, Tryz.results39, go_sem, y0, y1, y2, y3, y4, y5]) rfl ?_
      exact FF.out
    · have NW0 : Hid (Sct.dg m0.toNat = x0.data.toList) := hide (by rcases ON0.out.2 with ⟨_, _, h1⟩ | ⟨h1, _⟩; exact h1; cases h1)
      go_wp2
      rw [rounds_succ]
      by_cases hq1 : (n : Int) ≤ 1
      · obtain ⟨V, hV, gV, rbV, ⟨o0, o1, o2, o3, o4, o5⟩, fr, ⟨y0, y1, y2, y3, y4, y5⟩⟩ := putz RB.out (.int .i64 K) (.int .i64 m0) (.int .i64 0) (.int .i64 0) (.string ⟨#[]⟩) (.slice none 0 0)
        have f0 := fr 0; have f1 := fr 1; have f2 := fr 2; have f3 := fr 3; have f4 := fr 4; have f5 := fr 5
        have Q := sx_of AB.out
        obtain ⟨q0, q1, q2, q3, q4, q5⟩ := Q
        have FF := hide (show ActE K (wl ws) w (.returned (.tuple #[.agg #[.int .i64 K, .int .i64 m0, .int .i64 0, .int .i64 0, .string ⟨#[]⟩, .slice none 0 0], .bool false])) V from ⟨⟨K, m0, 0, 0, ⟨#[]⟩, []⟩, .slice none 0 0, false, rfl, OwnO.nil _ _ _, .inr ⟨rfl, fun b hb hk he => by have h1 := congrArg List.length he; rw [tail_nk HSP.out b hk, HLW.out] at h1; simp at h1; omega⟩, below_put BL.out gV (Nat.le_refl _) BL.out.size⟩)
        clear rbV gV fr
        go_wp2
        refine bodyPost_ret (v := .tuple #[.agg #[.int .i64 K, .int .i64 m0, .int .i64 0, .int .i64 0, .string ⟨#[]⟩, .slice none 0 0], .bool false]) (by simp [results, Tryz.results39, go_sem, y0, y1, y2, y3, y4, y5]) rfl ?_
        exact FF.out
      · skip
        have hnn1 : 1 < n := by omega
        obtain ⟨b, off, cap, hvv, hc0, hc1, hc2, hc⟩ := AT.out z0 BL.out (by have := HN.out; omega)
        cases hvv
        obtain ⟨x1, hx1⟩ : ∃ x, ws[1]? = some x := ⟨ws[1]'(by have := HN.out; omega), List.getElem?_eq_getElem _⟩
        have hxz1 : x1.size ≤ 65536 := HZ.out x1 (List.mem_of_getElem? hx1)
        have cx : z0.cell? ⟨b, off + 1, none⟩ = some (.string x1) := by simpa using hc 1 x1 hx1 0 (.string x1) rfl
        have HX1 := hide (wl_word hx1)
        have ONE : Hid (Calls Tryz.prog 76 #[.pointer (some ⟨w.heap.size + 1, 0, none⟩), .int .u8 107, .string x1] z0.drew fun E w' => ∃ v, E = .returned v ∧ ∃ m ok, v = .bool ok ∧ OKey x1.data.toList m ok ∧ w'.heap[w.heap.size + 1]? = some (.cells #[.int .i64 K, .int .i64 m0, .int .i64 0, .int .i64 0, .string m, .slice none 0 0] 24 (0, 0)) ∧ z0.drew.grownBy w' (some (w.heap.size + 1))) := hide ((oneR_k (w.heap.size + 1) x1 z0.drew K (m0) (0) (0) (⟨#[]⟩) (.slice none 0 0) hxz1 AB.out).mono (by rintro E w' ⟨m, ok, rfl, h⟩; exact ⟨_, rfl, m, ok, rfl, h⟩))
        clear hc hx1
        go_wp2_with fail
        go_cut [49] from 41 to 49 (fun v49 wx => ∃ (m : ByteArray) (ok : Bool), v49 = .bool (!ok) ∧ Hid (OKey x1.data.toList m ok ∧ wx.heap[w.heap.size + 1]? = some (.cells #[.int .i64 K, .int .i64 m0, .int .i64 0, .int .i64 0, .string m, .slice none 0 0] 24 (0, 0)) ∧ z0.grownBy wx (some (w.heap.size + 1))))
        case first =>
          go_region_law (refine call_sx rfl 76 #[.tmp 6, .tmp 43, .tmp 47] #[136, 5, 9] rfl Tryz.enters76 #[.pointer (some ⟨w.heap.size + 1, 0, none⟩), .int .u8 107, .string x1] (by first | rfl | (simp [Act.eval]; done) | (simp [Act.eval]; rfl)) ONE.out ?_; rintro _ z1 ⟨m1, ok1, rfl, on1, ab1, gy1⟩; have REL := hide (And.intro on1 (And.intro ab1 (grown_trans (grown_drewN z0 1 _) gy1))); clear gy1 on1 ab1)
          all_goals
            go_wp2
            go_meet
            case rel => exact ⟨m1, ok1, rfl, REL⟩
        obtain ⟨m1, ok1, rfl, hrl1⟩ := hcut
        obtain ⟨z1, rfl⟩ : ∃ z, z = wc := ⟨_, rfl⟩
        obtain ⟨on1, ab1, gz1⟩ := hrl1.out
        clear hrl1
        have RB1 : Hid (z1.heap[w.heap.size]? = some (.cells #[.int .i64 0, .int .i64 0, .int .i64 0, .int .i64 0, .string ⟨#[]⟩, .slice none 0 0] 24 (0, 0))) := hide ((gz1.block w.heap.size (blk_lt RB.out) (by simp)).trans RB.out)
        have BL1 := hide (below_put BL.out gz1 (by omega) BL.out.size)
        clear cx ONE AB RB BL gz1
        have AB := hide ab1
        have RB := RB1
        have BL := BL1
        clear ab1 RB1 BL1
        have ON1 := hide on1
        clear on1
        cases ok1
        · obtain ⟨V, hV, gV, rbV, ⟨o0, o1, o2, o3, o4, o5⟩, fr, ⟨y0, y1, y2, y3, y4, y5⟩⟩ := putz RB.out (.int .i64 K) (.int .i64 m0) (.int .i64 0) (.int .i64 0) (.string m1) (.slice none 0 0)
          have f0 := fr 0; have f1 := fr 1; have f2 := fr 2; have f3 := fr 3; have f4 := fr 4; have f5 := fr 5
          have Q := sx_of AB.out
          obtain ⟨q0, q1, q2, q3, q4, q5⟩ := Q
          have FF := hide (show ActE K (wl ws) w (.returned (.tuple #[.agg #[.int .i64 K, .int .i64 m0, .int .i64 0, .int .i64 0, .string m1, .slice none 0 0], .bool false])) V from ⟨⟨K, m0, 0, 0, m1, []⟩, .slice none 0 0, false, rfl, OwnO.nil _ _ _, .inr ⟨rfl, fun b hb hk he => by have h1 := HX1.out; rw [← he, tail_nk HSP.out b hk] at h1; rcases ON1.out with ⟨h2, _⟩ | ⟨_, h2⟩; cases h2; exact h2 b.key.data.toList (ok_k HSP.out (by decide) hb hk) (Option.some.inj h1)⟩, below_put BL.out gV (Nat.le_refl _) BL.out.size⟩)
          clear rbV gV fr
          go_wp2
          refine bodyPost_ret (v := .tuple #[.agg #[.int .i64 K, .int .i64 m0, .int .i64 0, .int .i64 0, .string m1, .slice none 0 0], .bool false]) (by simp [results, Tryz.results39, go_sem, y0, y1, y2, y3, y4, y5]) rfl ?_
          exact FF.out
        · have NW1 : Hid (Om.chk false m1.data.toList [] = 0 ∧ Wm.wd m1.data.toList = x1.data.toList) := hide (by rcases ON1.out with ⟨_, h1⟩ | ⟨h1, _⟩; exact h1; cases h1)
          go_wp2
          rw [rounds_succ]
          by_cases hqe : n = 2
          · have hqf : ((n : Int) == 2) = true := by simp; omega
            obtain ⟨V, hV, gV, rbV, ⟨o0, o1, o2, o3, o4, o5⟩, fr, ⟨y0, y1, y2, y3, y4, y5⟩⟩ := putz RB.out (.int .i64 K) (.int .i64 m0) (.int .i64 0) (.int .i64 0) (.string m1) (.slice none 0 0)
            have f0 := fr 0; have f1 := fr 1; have f2 := fr 2; have f3 := fr 3; have f4 := fr 4; have f5 := fr 5
            have Q := sx_of AB.out
            obtain ⟨q0, q1, q2, q3, q4, q5⟩ := Q
            have FF := hide (show ActE K (wl ws) w (.returned (.tuple #[.agg #[.int .i64 K, .int .i64 m0, .int .i64 0, .int .i64 0, .string m1, .slice none 0 0], .bool true])) V from ⟨⟨K, m0, 0, 0, m1, []⟩, .slice none 0 0, true, rfl, OwnO.nil _ _ _, .inl ⟨rfl, rfl, ok_of HSP.out hK ⟨ON0.out.1.1, by rcases ON0.out.2 with ⟨_, h1, _⟩ | ⟨h1, _⟩; exact h1; cases h1⟩ (by decide) (by decide) (.inl (by decide)) (.inr rfl) (.inr rfl) (.inl ⟨by decide, NW1.out.1⟩) (.inr ⟨by decide, rfl⟩), by rw [tail_nk HSP.out _ rfl]; show [Sct.dg m0.toNat, Wm.wd m1.data.toList] = _; rw [NW0.out]; rw [NW1.out.2]; exact (wl_lit2 (by rw [HLW.out]; exact hqe) HX0.out HX1.out).symm⟩, below_put BL.out gV (Nat.le_refl _) BL.out.size⟩)
            clear rbV gV fr
            go_wp2
            refine bodyPost_ret (v := .tuple #[.agg #[.int .i64 K, .int .i64 m0, .int .i64 0, .int .i64 0, .string m1, .slice none 0 0], .bool true]) (by simp [results, Tryz.results39, go_sem, y0, y1, y2, y3, y4, y5]) rfl ?_
            exact FF.out
          · have hqf : ((n : Int) == 2) = false := by simp; omega
            obtain ⟨V, hV, gV, rbV, ⟨o0, o1, o2, o3, o4, o5⟩, fr, ⟨y0, y1, y2, y3, y4, y5⟩⟩ := putz RB.out (.int .i64 K) (.int .i64 m0) (.int .i64 0) (.int .i64 0) (.string m1) (.slice none 0 0)
            have f0 := fr 0; have f1 := fr 1; have f2 := fr 2; have f3 := fr 3; have f4 := fr 4; have f5 := fr 5
            have Q := sx_of AB.out
            obtain ⟨q0, q1, q2, q3, q4, q5⟩ := Q
            have FF := hide (show ActE K (wl ws) w (.returned (.tuple #[.agg #[.int .i64 K, .int .i64 m0, .int .i64 0, .int .i64 0, .string m1, .slice none 0 0], .bool false])) V from ⟨⟨K, m0, 0, 0, m1, []⟩, .slice none 0 0, false, rfl, OwnO.nil _ _ _, .inr ⟨rfl, fun b hb hk he => by have h1 := congrArg List.length he; rw [tail_nk HSP.out b hk, HLW.out] at h1; simp at h1; omega⟩, below_put BL.out gV (Nat.le_refl _) BL.out.size⟩)
            clear rbV gV fr
            go_wp2
            refine bodyPost_ret (v := .tuple #[.agg #[.int .i64 K, .int .i64 m0, .int .i64 0, .int .i64 0, .string m1, .slice none 0 0], .bool false]) (by simp [results, Tryz.results39, go_sem, y0, y1, y2, y3, y4, y5]) rfl ?_
            exact FF.out

set_option maxHeartbeats 4000000 in
theorem actR_no (K : Int) (v : Value) (ws : List ByteArray) (w : World) (hK : 1 ≤ K ∧ K ≤ 12) (hs : shp K = [110, 111]) (h : RowG fsc w v ws) (hz : ∀ s ∈ ws, s.size ≤ 65536) (hl : ws.length ≤ 65536) : Calls Tryz.prog 39 #[.int .i64 K, v] w (ActE K (wl ws) w) := by
  obtain ⟨W1, hw1, s1, b1, rb1⟩ := blk_step w #[.int .i64 0, .int .i64 0, .int .i64 0, .int .i64 0, .string ⟨#[]⟩, .slice none 0 0] 24
  obtain ⟨W2, hw2, s2, b2, ab⟩ := blk_step W1 #[.int .i64 0, .int .i64 0, .int .i64 0, .int .i64 0, .string ⟨#[]⟩, .slice none 0 0] 24
  have AT := hide (fun W (hW : Below w.heap.size w W) (hne : 0 < ws.length) => (h.below hW).full fsc_len (by decide) hne)
  have HR := hide h
  have HSP := hide hs
  have HZ := hide hz
  obtain ⟨oa, oc, rfl, _, _⟩ := h.shape
  obtain ⟨n, hn⟩ : ∃ n, ws.length = n := ⟨_, rfl⟩
  have HN := hide hn
  have HLW : Hid ((wl ws).length = n) := hide (by rw [wl_len]; exact hn)
  rw [hn] at hl AT HR ⊢
  rw [s1] at b2 ab
  have SHP := hide (fun W => shapeR_any K W)
  rw [hs] at SHP
  clear h hz hn
  go_enter Tryz.func39, Tryz.ntmps39
  obtain ⟨V0, hv0, gv0, ab2, ⟨g0, g1, g2, g3, g4, g5⟩, fr0, _⟩ := putz ab (.int .i64 K) (.int .i64 0) (.int .i64 0) (.int .i64 0) (.string ⟨#[]⟩) (.slice none 0 0)
  have p0 := fr0 0; have p1 := fr0 1; have p2 := fr0 2; have p3 := fr0 3; have p4 := fr0 4; have p5 := fr0 5
  have AB := hide ab2
  have BL := hide (below_put (b1.trans (b2.mono (by omega))) gv0 (by omega) (by omega))
  have RB : Hid (V0.heap[w.heap.size]? = some (.cells #[.int .i64 0, .int .i64 0, .int .i64 0, .int .i64 0, .string ⟨#[]⟩, .slice none 0 0] 24 (0, 0))) := hide ((gv0.block w.heap.size (by omega) (by simp)).trans ((b2.block w.heap.size (by omega)).trans rb1))
  clear b1 b2 rb1 ab ab2 gv0 fr0
  go_wp2_with fail
  refine (SHP.out _).mono ?_
  rintro E Wx ⟨rfl, rfl⟩
  rw [show (⟨([110, 111] : List UInt8).toArray⟩ : ByteArray) = ⟨#[110, 111]⟩ from rfl]
  clear SHP g0 g1 g2 g3 g4 g5 p0 p1 p2 p3 p4 p5
  go_wp2
  refine wp_loop_rounds 3 ?_
  rw [rounds_succ]
  by_cases hq0 : (n : Int) ≤ 0
  · obtain ⟨V, hV, gV, rbV, ⟨o0, o1, o2, o3, o4, o5⟩, fr, ⟨y0, y1, y2, y3, y4, y5⟩⟩ := putz RB.out (.int .i64 K) (.int .i64 0) (.int .i64 0) (.int .i64 0) (.string ⟨#[]⟩) (.slice none 0 0)
    have f0 := fr 0; have f1 := fr 1; have f2 := fr 2; have f3 := fr 3; have f4 := fr 4; have f5 := fr 5
    have Q := sx_of AB.out
    obtain ⟨q0, q1, q2, q3, q4, q5⟩ := Q
    have FF := hide (show ActE K (wl ws) w (.returned (.tuple #[.agg #[.int .i64 K, .int .i64 0, .int .i64 0, .int .i64 0, .string ⟨#[]⟩, .slice none 0 0], .bool false])) V from ⟨⟨K, 0, 0, 0, ⟨#[]⟩, []⟩, .slice none 0 0, false, rfl, OwnO.nil _ _ _, .inr ⟨rfl, fun b hb hk he => by have h1 := congrArg List.length he; have h2 := opw_pos (ok_o HSP.out (by decide) hb hk); rw [tail_no HSP.out b hk, HLW.out] at h1; simp at h1; omega⟩, below_put BL.out gV (Nat.le_refl _) BL.out.size⟩)
    clear rbV gV fr
    go_wp2
    refine bodyPost_ret (v := .tuple #[.agg #[.int .i64 K, .int .i64 0, .int .i64 0, .int .i64 0, .string ⟨#[]⟩, .slice none 0 0], .bool false]) (by simp [results, Tryz.results39, go_sem, y0, y1, y2, y3, y4, y5]) rfl ?_
    exact FF.out
  · skip
    have hnn0 : 0 < n := by omega
    obtain ⟨b, off, cap, hvv, hc0, hc1, hc2, hc⟩ := AT.out V0 BL.out (by have := HN.out; omega)
    cases hvv
    obtain ⟨x0, hx0⟩ : ∃ x, ws[0]? = some x := ⟨ws[0]'(by have := HN.out; omega), List.getElem?_eq_getElem _⟩
    have hxz0 : x0.size ≤ 65536 := HZ.out x0 (List.mem_of_getElem? hx0)
    have cx : V0.cell? ⟨b, off, none⟩ = some (.string x0) := by simpa using hc 0 x0 hx0 0 (.string x0) rfl
    have HX0 := hide (wl_word hx0)
    have ONE : Hid (Calls Tryz.prog 76 #[.pointer (some ⟨w.heap.size + 1, 0, none⟩), .int .u8 110, .string x0] V0.drew fun E w' => ∃ v, E = .returned v ∧ ∃ m ok, v = .bool ok ∧ ONum x0.data.toList 1 m ok ∧ w'.heap[w.heap.size + 1]? = some (.cells #[.int .i64 K, .int .i64 m, .int .i64 0, .int .i64 0, .string ⟨#[]⟩, .slice none 0 0] 24 (0, 0)) ∧ V0.drew.grownBy w' (some (w.heap.size + 1))) := hide ((oneR_n (w.heap.size + 1) x0 V0.drew K (0) (0) (0) (⟨#[]⟩) (.slice none 0 0) hxz0 AB.out).mono (by rintro E w' ⟨m, ok, rfl, h⟩; exact ⟨_, rfl, m, ok, rfl, h⟩))
    clear hc hx0
    go_wp2_with fail
    go_cut [49] from 41 to 49 (fun v49 wx => ∃ (m : Int) (ok : Bool), v49 = .bool (!ok) ∧ Hid (ONum x0.data.toList 1 m ok ∧ wx.heap[w.heap.size + 1]? = some (.cells #[.int .i64 K, .int .i64 m, .int .i64 0, .int .i64 0, .string ⟨#[]⟩, .slice none 0 0] 24 (0, 0)) ∧ V0.grownBy wx (some (w.heap.size + 1))))
    case first =>
      go_region_law (refine call_sx rfl 76 #[.tmp 6, .tmp 43, .tmp 47] #[136, 5, 9] rfl Tryz.enters76 #[.pointer (some ⟨w.heap.size + 1, 0, none⟩), .int .u8 110, .string x0] (by first | rfl | (simp [Act.eval]; done) | (simp [Act.eval]; rfl)) ONE.out ?_; rintro _ z0 ⟨m0, ok0, rfl, on0, ab0, gy0⟩; have REL := hide (And.intro on0 (And.intro ab0 (grown_trans (grown_drewN V0 1 _) gy0))); clear gy0 on0 ab0)
      all_goals
        go_wp2
        go_meet
        case rel => exact ⟨m0, ok0, rfl, REL⟩
    obtain ⟨m0, ok0, rfl, hrl0⟩ := hcut
    obtain ⟨z0, rfl⟩ : ∃ z, z = wc := ⟨_, rfl⟩
    obtain ⟨on0, ab0, gz0⟩ := hrl0.out
    clear hrl0
    have RB0 : Hid (z0.heap[w.heap.size]? = some (.cells #[.int .i64 0, .int .i64 0, .int .i64 0, .int .i64 0, .string ⟨#[]⟩, .slice none 0 0] 24 (0, 0))) := hide ((gz0.block w.heap.size (blk_lt RB.out) (by simp)).trans RB.out)
    have BL0 := hide (below_put BL.out gz0 (by omega) BL.out.size)
    clear cx ONE AB RB BL gz0
    have AB := hide ab0
    have RB := RB0
    have BL := BL0
    clear ab0 RB0 BL0
    have ON0 := hide on0
    clear on0
    cases ok0
    · obtain ⟨V, hV, gV, rbV, ⟨o0, o1, o2, o3, o4, o5⟩, fr, ⟨y0, y1, y2, y3, y4, y5⟩⟩ := putz RB.out (.int .i64 K) (.int .i64 m0) (.int .i64 0) (.int .i64 0) (.string ⟨#[]⟩) (.slice none 0 0)
      have f0 := fr 0; have f1 := fr 1; have f2 := fr 2; have f3 := fr 3; have f4 := fr 4; have f5 := fr 5
      have Q := sx_of AB.out
      obtain ⟨q0, q1, q2, q3, q4, q5⟩ := Q
      have FF := hide (show ActE K (wl ws) w (.returned (.tuple #[.agg #[.int .i64 K, .int .i64 m0, .int .i64 0, .int .i64 0, .string ⟨#[]⟩, .slice none 0 0], .bool false])) V from ⟨⟨K, m0, 0, 0, ⟨#[]⟩, []⟩, .slice none 0 0, false, rfl, OwnO.nil _ _ _, .inr ⟨rfl, fun b hb hk he => by have h1 := HX0.out; rw [← he, tail_no HSP.out b hk] at h1; rcases ON0.out.2 with ⟨h2, _⟩ | ⟨_, h2⟩; cases h2; exact h2 b.u.toNat (by have := hb.u; omega) (Option.some.inj h1)⟩, below_put BL.out gV (Nat.le_refl _) BL.out.size⟩)
      clear rbV gV fr
      go_wp2
      refine bodyPost_ret (v := .tuple #[.agg #[.int .i64 K, .int .i64 m0, .int .i64 0, .int .i64 0, .string ⟨#[]⟩, .slice none 0 0], .bool false]) (by simp [results, Tryz.results39, go_sem, y0, y1, y2, y3, y4, y5]) rfl ?_
      exact FF.out
    · have NW0 : Hid (Sct.dg m0.toNat = x0.data.toList) := hide (by rcases ON0.out.2 with ⟨_, _, h1⟩ | ⟨h1, _⟩; exact h1; cases h1)
      go_wp2
      rw [rounds_succ]
      by_cases hq1 : (n : Int) ≤ 1
      · obtain ⟨V, hV, gV, rbV, ⟨o0, o1, o2, o3, o4, o5⟩, fr, ⟨y0, y1, y2, y3, y4, y5⟩⟩ := putz RB.out (.int .i64 K) (.int .i64 m0) (.int .i64 0) (.int .i64 0) (.string ⟨#[]⟩) (.slice none 0 0)
        have f0 := fr 0; have f1 := fr 1; have f2 := fr 2; have f3 := fr 3; have f4 := fr 4; have f5 := fr 5
        have Q := sx_of AB.out
        obtain ⟨q0, q1, q2, q3, q4, q5⟩ := Q
        have FF := hide (show ActE K (wl ws) w (.returned (.tuple #[.agg #[.int .i64 K, .int .i64 m0, .int .i64 0, .int .i64 0, .string ⟨#[]⟩, .slice none 0 0], .bool false])) V from ⟨⟨K, m0, 0, 0, ⟨#[]⟩, []⟩, .slice none 0 0, false, rfl, OwnO.nil _ _ _, .inr ⟨rfl, fun b hb hk he => by have h1 := congrArg List.length he; have h2 := opw_pos (ok_o HSP.out (by decide) hb hk); rw [tail_no HSP.out b hk, HLW.out] at h1; simp at h1; omega⟩, below_put BL.out gV (Nat.le_refl _) BL.out.size⟩)
        clear rbV gV fr
        go_wp2
        refine bodyPost_ret (v := .tuple #[.agg #[.int .i64 K, .int .i64 m0, .int .i64 0, .int .i64 0, .string ⟨#[]⟩, .slice none 0 0], .bool false]) (by simp [results, Tryz.results39, go_sem, y0, y1, y2, y3, y4, y5]) rfl ?_
        exact FF.out
      · skip
        have hnn1 : 1 < n := by omega
        obtain ⟨b, off, cap, hvv, hc0, hc1, hc2, hc⟩ := AT.out z0 BL.out (by have := HN.out; omega)
        cases hvv
        have RW := hide (HR.out.below BL.out)
        have RD : Hid (RowG fsc z0 (.slice (some ⟨b, off + 1, none⟩) (n - 1) (oc - 1)) (ws.drop 1)) := hide (by
          have hln : (ws.drop 1).length = n - 1 := by rw [List.length_drop, HN.out]
          refine .inr ⟨⟨b, off + 1, none⟩, oc - 1, by rw [hln], by omega, by omega, fun j u hj => ?_⟩
          rw [gcells_fsc, List.getElem?_map] at hj
          rw [add_at]
          obtain ⟨x, hx, hu⟩ := Option.map_eq_some_iff.1 hj
          rw [List.getElem?_drop] at hx
          have := hc (1 + j) x hx 0 (.string x) rfl
          rw [← hu, show off + 1 + j = off + (1 + j) * 1 + 0 by omega]
          exact this)
        have OP := hide (opsR_any _ (ws.drop 1) z0 RD.out (fun x hx => HZ.out x (List.mem_of_mem_drop hx)) (by rw [List.length_drop]; have := HN.out; omega))
        clear hc
        go_wp2_with fail
        refine OP.out.mono ?_
        rintro E w1a ⟨v1, l1, ok1, rfl, own1, or1, bo1⟩
        have gvs := bo1.size
        have blz := BL.out.size
        obtain ⟨oo, ocp, rfl, _, _⟩ := own1.is.shape
        have ab3 := (bo1.block (w.heap.size + 1) (blk_lt AB.out)).trans AB.out
        have RB2 := hide ((bo1.block w.heap.size (blk_lt RB.out)).trans RB.out)
        have BL2 := hide (BL.out.trans (bo1.mono BL.out.size))
        have ac5 := blk_cell ab3 5 rfl
        have af5 := blk_froz ab3 5
        have ab4 := set_cells ab3 5 (.slice oo l1.length ocp)
        have g4 := grown_setCell w1a ⟨w.heap.size + 1, 5, none⟩ (.slice oo l1.length ocp)
        obtain ⟨X, hX⟩ : ∃ X, w1a.setCell ⟨w.heap.size + 1, 5, none⟩ (.slice oo l1.length ocp) = X := ⟨_, rfl⟩
        rw [hX] at ab4 g4
        replace ab4 : X.heap[w.heap.size + 1]? = some (.cells #[.int .i64 K, .int .i64 m0, .int .i64 0, .int .i64 0, .string ⟨#[]⟩, .slice oo l1.length ocp] 24 (0, 0)) := ab4
        have ownX := own_kg own1 g4 (by have := blk_lt AB.out; exact this)
        have RBX : Hid (X.heap[w.heap.size]? = some (.cells #[.int .i64 0, .int .i64 0, .int .i64 0, .int .i64 0, .string ⟨#[]⟩, .slice none 0 0] 24 (0, 0))) := hide ((g4.block w.heap.size (blk_lt RB2.out) (by simp)).trans RB2.out)
        have BLX := hide (below_put BL2.out g4 (by simp) BL2.out.size)
        have OWX := hide ownX
        have OLT := hide (show w.heap.size < z0.heap.size from blk_lt RB.out)
        have ABX := hide ab4
        clear AB RB BL RB2 BL2 g4 ab3 bo1 OP RW RD ownX
        have AB := ABX
        have RB := RBX
        have BL := BLX
        clear ABX RBX BLX
        rcases or1 with ⟨rfl, hch, how⟩ | ⟨rfl, hno⟩
        · obtain ⟨V, hV, gV, rbV, ⟨o0, o1, o2, o3, o4, o5⟩, fr, ⟨y0, y1, y2, y3, y4, y5⟩⟩ := putz RB.out (.int .i64 K) (.int .i64 m0) (.int .i64 0) (.int .i64 0) (.string ⟨#[]⟩) (.slice oo l1.length ocp)
          have f0 := fr 0; have f1 := fr 1; have f2 := fr 2; have f3 := fr 3; have f4 := fr 4; have f5 := fr 5
          have Q := sx_of AB.out
          obtain ⟨q0, q1, q2, q3, q4, q5⟩ := Q
          have FF := hide (show ActE K (wl ws) w (.returned (.tuple #[.agg #[.int .i64 K, .int .i64 m0, .int .i64 0, .int .i64 0, .string ⟨#[]⟩, .slice oo l1.length ocp], .bool true])) V from ⟨⟨K, m0, 0, 0, ⟨#[]⟩, l1⟩, .slice oo l1.length ocp, true, rfl, ((own_kg OWX.out gV OLT.out).rebase (base' := w.heap.size) (Nat.le_of_lt OLT.out)), .inl ⟨rfl, rfl, ok_of HSP.out hK ⟨ON0.out.1.1, by have := ON0.out; rcases this.2 with ⟨_, h1, _⟩ | ⟨h1, _⟩; exact h1; cases h1⟩ (by decide) (by decide) (.inl (by decide)) (.inr rfl) (.inr rfl) (.inr ⟨by decide, rfl⟩) (.inl ⟨by decide, hch⟩), by rw [tail_no HSP.out _ rfl]; show [_] ++ Sct.opw l1 = _; rw [how, wl_drop, NW0.out]; exact wl_split HX0.out⟩, below_put BL.out gV (Nat.le_refl _) BL.out.size⟩)
          clear rbV gV fr
          go_wp2
          refine bodyPost_ret (v := .tuple #[.agg #[.int .i64 K, .int .i64 m0, .int .i64 0, .int .i64 0, .string ⟨#[]⟩, .slice oo l1.length ocp], .bool true]) (by simp [results, Tryz.results39, go_sem, y0, y1, y2, y3, y4, y5]) rfl ?_
          exact FF.out
        · obtain ⟨V, hV, gV, rbV, ⟨o0, o1, o2, o3, o4, o5⟩, fr, ⟨y0, y1, y2, y3, y4, y5⟩⟩ := putz RB.out (.int .i64 K) (.int .i64 m0) (.int .i64 0) (.int .i64 0) (.string ⟨#[]⟩) (.slice oo l1.length ocp)
          have f0 := fr 0; have f1 := fr 1; have f2 := fr 2; have f3 := fr 3; have f4 := fr 4; have f5 := fr 5
          have Q := sx_of AB.out
          obtain ⟨q0, q1, q2, q3, q4, q5⟩ := Q
          have FF := hide (show ActE K (wl ws) w (.returned (.tuple #[.agg #[.int .i64 K, .int .i64 m0, .int .i64 0, .int .i64 0, .string ⟨#[]⟩, .slice oo l1.length ocp], .bool false])) V from ⟨⟨K, m0, 0, 0, ⟨#[]⟩, l1⟩, .slice oo l1.length ocp, false, rfl, ((own_kg OWX.out gV OLT.out).rebase (base' := w.heap.size) (Nat.le_of_lt OLT.out)), .inr ⟨rfl, fun b hb hk he => by rw [tail_no HSP.out b hk] at he; have h2 := congrArg (List.drop 1) he; rw [show List.drop 1 ([Sct.dg b.u.toNat] ++ Sct.opw b.ops) = Sct.opw b.ops from rfl, ← wl_drop] at h2; exact hno b.ops (ok_o HSP.out (by decide) hb hk) h2⟩, below_put BL.out gV (Nat.le_refl _) BL.out.size⟩)
          clear rbV gV fr
          go_wp2
          refine bodyPost_ret (v := .tuple #[.agg #[.int .i64 K, .int .i64 m0, .int .i64 0, .int .i64 0, .string ⟨#[]⟩, .slice oo l1.length ocp], .bool false]) (by simp [results, Tryz.results39, go_sem, y0, y1, y2, y3, y4, y5]) rfl ?_
          exact FF.out

theorem actR_any (K : Int) (v : Value) (ws : List ByteArray) (w : World) (hK : 1 ≤ K ∧ K ≤ 12) (h : RowG fsc w v ws) (hz : ∀ s ∈ ws, s.size ≤ 65536) (hl : ws.length ≤ 65536) : Calls Tryz.prog 39 #[.int .i64 K, v] w (ActE K (wl ws) w) := by
  obtain rfl | rfl | rfl | rfl | rfl | rfl | rfl | rfl | rfl | rfl | rfl | rfl : K = 1 ∨ K = 2 ∨ K = 3 ∨ K = 4 ∨ K = 5 ∨ K = 6 ∨ K = 7 ∨ K = 8 ∨ K = 9 ∨ K = 10 ∨ K = 11 ∨ K = 12 := by omega
  · exact actR_no _ v ws w hK rfl h hz hl
  · exact actR_nk _ v ws w hK rfl h hz hl
  · exact actR_n _ v ws w hK rfl h hz hl
  · exact actR_n _ v ws w hK rfl h hz hl
  · exact actR_n _ v ws w hK rfl h hz hl
  · exact actR_a _ v ws w hK rfl h hz hl
  · exact actR_a _ v ws w hK rfl h hz hl
  · exact actR_a _ v ws w hK rfl h hz hl
  · exact actR_na _ v ws w hK rfl h hz hl
  · exact actR_n _ v ws w hK rfl h hz hl
  · exact actR_nat _ v ws w hK rfl h hz hl
  · exact actR_z _ v ws w hK rfl h hz hl

end Go.Proofs.YtdlogcdpapknaaaGreatDoor
