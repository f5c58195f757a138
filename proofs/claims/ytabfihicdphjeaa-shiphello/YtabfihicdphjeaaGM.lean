/- Texts of one layer, one behind the other. -/
import Derived.Test.YtabfihicdphjeaaGJ
import Derived.Test.YtabfihicdphjeaaGL
import Derived.Test.YtabfihicdphjeaaGA
/- Law 17: example, small. -/
namespace Go.Proofs.Ytabfihicdphjeaa
open Go.RowKit
open Bm (Ov)
set_option linter.unusedVariables false

/-- The chapter's log. -/
def exO17 : Ov := ⟨false, ⟨#[107]⟩, ⟨#[]⟩⟩
def exE (i : Nat) : Int := if i = 6 then 3 else 1
def exL : Nat → List Cm.Cv
  | 0 => []
  | i + 1 => exL i ++ [⟨exE (i + 1), (i + 1 : Nat), [exO17]⟩]

theorem ex_fit (i : Nat) (h : i ≤ 6) : CFit (exE i) i [exO17] := by
  refine ⟨?_, ⟨by omega, by omega⟩, fun o ho => ?_, by simp⟩
  · unfold exE In64
    split <;> omega
  · rw [List.mem_singleton.1 ho]
    exact ⟨by decide, by decide⟩

/-- What example comes to. -/
def ExR (w : World) (E : Ending) (w' : World) : Prop := ∃ v rs, E = .returned v ∧ ShS w.heap.size w' v rs ∧ cvs rs = exL 6 ∧ Below w.heap.size w w'

set_option maxRecDepth 20000 in
set_option maxHeartbeats 2000000 in
theorem example17_any (w : World) : Calls Try.prog 8 #[] w (ExR w) := by
  go_enter Try.func8, Try.ntmps8
  go_wp2
  go_loopw [1, 2] (fun lv iv wr => ∃ (i : Nat) (cs : List Cw) (va : Option Addr) (vn vk : Nat), lv = .slice va vn vk ∧ iv = .int .i64 ((i : Int) + 1) ∧ i ≤ 6 ∧ cs.length = i ∧ Hid (ShS w.heap.size wr (.slice va vn vk) cs ∧ cvs cs = exL i ∧ Below w.heap.size w wr)) (fun _ iv _ => 7 - (intOf iv).toNat)
  case atStart => exact ⟨0, [], none, 0, 0, rfl, rfl, by omega, rfl, hide ⟨ShS.nil _ _, rfl, Below.refl _ _⟩⟩
  case round =>
    obtain ⟨i, cs, va, vn, vk, rfl, rfl, hi, hcs, HS⟩ := hrel
    by_cases hlt : i < 6
    · have hlt' : (i : Int) + 1 ≤ 6 := by omega
      obtain ⟨W1, hW1, sz1, b1, o1⟩ := ops_step 62 wr #[.bool false, .string ⟨#[107]⟩, .string ⟨#[]⟩] 1 [exO17] rfl rfl (by simp [maxLen])
      have hsz := HS.out.2.2.size
      have PU : Hid (∃ V, W1.alloc (.cells #[.int .i64 (exE (i + 1)), .int .i64 ((i : Int) + 1), .slice (some ⟨wr.heap.size, 0, none⟩) 1 1] 46) = V ∧ ∀ ty, ∃ v2 w2, (Builtin.append_ #[24, 24] ty #[.slice va vn vk, .slice (some ⟨W1.heap.size, 0, none⟩) 1 1]).run Try.prog V = .ok v2 w2 ∧ ∃ cs2, cs2.length = i + 1 ∧ Hid (ShS w.heap.size w2 v2 cs2 ∧ cvs cs2 = exL (i + 1) ∧ Below w.heap.size w w2) ∧ ∃ a n k, v2 = .slice a n k) := hide (by
        obtain ⟨V, hV, bV, szV, hpu⟩ := HS.out.1.push hsz b1 ⟨exE (i + 1), ((i + 1 : Nat) : Int), .slice (some ⟨wr.heap.size, 0, none⟩) 1 1, [exO17]⟩ o1 (ex_fit (i + 1) (by omega)) (by omega)
        refine ⟨V, hV, fun ty => ?_⟩
        obtain ⟨v2, w2, hr, sh2, gr2, hsl⟩ := hpu ty
        refine ⟨v2, w2, hr, _, by rw [List.length_append, hcs]; rfl, hide ⟨sh2, ?_, ?_⟩, hsl⟩
        · rw [show cvs (cs ++ [⟨exE (i + 1), ((i + 1 : Nat) : Int), .slice (some ⟨wr.heap.size, 0, none⟩) 1 1, [exO17]⟩]) = cvs cs ++ [⟨exE (i + 1), (i + 1 : Nat), [exO17]⟩] by simp [cvs, Cw.c], HS.out.2.1]
          rfl
        · have bV' : Below w.heap.size w V := HS.out.2.2.trans ((b1.trans (bV.mono b1.size)).mono hsz)
          exact bV'.grown gr2 bV'.size fun g hg => (World.ownsRow.lt HS.out.1.c g hg).1)
      obtain ⟨V, hV, hpu⟩ := PU.out
      have HPU := hide hpu
      rw [sz1] at HPU
      clear PU hpu HS b1 o1
      by_cases h5 : i = 5
      · have h6 : ((i : Int) + 1 == 6) = true := by rw [beq_iff_eq]; omega
        have hx : exE (i + 1) = 3 := by unfold exE; rw [if_pos (by omega)]
        rw [hx, show (i : Int) + 1 = 6 by omega] at hV
        go_wp2_with (at_builtin; refine wpList_append_at rfl (.tmp 10) (.tmp 16) 24 rfl (.slice va vn vk) (.slice (some ⟨wr.heap.size + 1, 0, none⟩) 1 1) rfl rfl HPU.out ?_; rintro v8 w8 ⟨cs2, hc2, H8, a8, n8, k8, rfl⟩)
        go_wp2
        go_roundw
        case rel => exact ⟨i + 1, cs2, a8, n8, k8, rfl, by go_num, by omega, hc2, H8⟩
        case measure => simp [intOf]; omega
      · have h6 : ((i : Int) + 1 == 6) = false := by rw [beq_eq_false_iff_ne]; omega
        have hx : exE (i + 1) = 1 := by unfold exE; rw [if_neg (by omega)]
        rw [hx] at hV
        go_wp2_with (at_builtin; refine wpList_append_at rfl (.tmp 10) (.tmp 16) 24 rfl (.slice va vn vk) (.slice (some ⟨wr.heap.size + 1, 0, none⟩) 1 1) rfl rfl HPU.out ?_; rintro v8 w8 ⟨cs2, hc2, H8, a8, n8, k8, rfl⟩)
        go_wp2
        go_roundw
        case rel => exact ⟨i + 1, cs2, a8, n8, k8, rfl, by go_num, by omega, hc2, H8⟩
        case measure => simp [intOf]; omega
    · have hlt' : ¬ (i : Int) + 1 ≤ 6 := by omega
      obtain rfl : i = 6 := by omega
      go_wp2
      go_ret
      exact ⟨_, cs, rfl, HS.out.1, HS.out.2.1, HS.out.2.2⟩

/-- What is gone through. -/
def Sm17 (rs : List Cw) : Prop := rs.length ≤ 40 ∧ ∀ c ∈ rs, c.l.length ≤ 40

/-- What small comes to. -/
def SmR (rs : List Cw) (w : World) (E : Ending) (w' : World) : Prop := (∃ b : Bool, E = .returned (.bool b) ∧ (b = true → Sm17 rs)) ∧ w = w'

set_option maxHeartbeats 1000000 in
theorem small17_any (v : Value) (rs : List Cw) (w : World) (h : IsC w v rs) (hl : rs.length ≤ 140737488355328) :
    Calls Try.prog 14 #[v] w (SmR rs w) := by
  obtain ⟨ao, cap, hvl, hcap, hcm⟩ := h.1.shape
  have HI := hide h
  have HL : Hid (∀ c ∈ rs, ∃ a k, c.v = .slice a c.l.length k) := hide fun c hc => by
    obtain ⟨a, k, e, _⟩ := (h.2 c hc).1.shape
    exact ⟨a, k, e⟩
  subst hvl
  clear h
  go_enter Try.func14, Try.ntmps14
  go_wp2
  go_loopw [3] (fun iv wr => ∃ i : Nat, iv = .int .i64 i ∧ i ≤ rs.length ∧ Hid (∀ c ∈ rs.take i, c.l.length ≤ 40) ∧ wr = w) (fun iv _ => rs.length - (intOf iv).toNat)
  case atStart => exact ⟨0, rfl, by omega, hide fun c hc => by simp at hc, rfl⟩
  case round =>
    obtain ⟨i, rfl, hi, HT, rfl⟩ := hrel
    by_cases hlt : i < rs.length
    · obtain ⟨b, off, cap', hvx, _, _, _, hcell⟩ := HI.out.1.full (by omega)
      simp only [Value.slice.injEq, true_and] at hvx
      obtain ⟨rfl, rfl⟩ := hvx
      obtain ⟨c, hc⟩ : ∃ c, rs[i]? = some c := ⟨rs[i], List.getElem?_eq_getElem hlt⟩
      obtain ⟨d0, d1, d2⟩ := hcell i c hc
      obtain ⟨a, k, hcv⟩ := HL.out c (List.mem_of_getElem? hc)
      rw [hcv] at d2
      have hlt' : (i : Int) < rs.length := by omega
      have hi0 : (0 : Int) ≤ (i : Int) := by omega
      by_cases h40 : 40 < c.l.length
      · have h40' : (40 : Int) < c.l.length := by omega
        clear hcell hc
        go_wp2
        go_ret
        exact ⟨⟨false, rfl, fun h => by simp at h⟩, rfl⟩
      · have h40' : ¬ (40 : Int) < c.l.length := by omega
        have HT2 : Hid (∀ d ∈ rs.take (i + 1), d.l.length ≤ 40) := hide fun d hd => by
          obtain ⟨h1, h2⟩ := List.getElem?_eq_some_iff.1 hc
          rw [List.take_succ_eq_append_getElem h1] at hd
          rcases List.mem_append.1 hd with hd | hd
          · exact HT.out d hd
          · rw [List.mem_singleton.1 hd, h2]; omega
        clear hcell hc HT
        go_wp2
        go_roundw
        case rel => exact ⟨i + 1, by go_num, by omega, HT2, by trivial⟩
        case measure => simp [intOf]; omega
    · have hlt' : ¬ (i : Int) < rs.length := by omega
      obtain rfl : i = rs.length := by omega
      rw [List.take_length] at HT
      go_wp2
      go_ret
      refine ⟨⟨_, rfl, fun h => ⟨?_, HT.out⟩⟩, rfl⟩
      have := of_decide_eq_true h
      omega

end Go.Proofs.Ytabfihicdphjeaa

/- A message that is told, as a value; the chapter's log in numbers (layer 17). -/
namespace Go.Proofs.Ytabfihicdphjeaa
open Go.RowKit
set_option linter.unusedVariables false

/-- The message as it stands in memory. -/
def mw17 (m : Mm.Msg) (sa : Option Addr) (so : Nat) (ca : Option Addr) (co : Nat) (cs : List Cw) : Mw := ⟨m.k, m.e, m.r, m.n, .slice sa m.ss.length so, m.ss, m.f, m.p, .slice ca m.cs.length co, cs⟩

/-- What is told, opened. -/
structure Tld (w w' : World) (m : Mm.Msg) (sa : Option Addr) (so : Nat) (ca : Option Addr) (co : Nat) (cs : List Cw) : Prop where
  own : OwnM w.heap.size w' (mw17 m sa so ca co cs)
  fit : FitM (mw17 m sa so ca co cs)
  is : cvs cs = m.cs
  bel : Below w.heap.size w w'

theorem DecR.open {w w' : World} {m : Mm.Msg} {g : Int} {E : Ending} (h : DecR w m g E w') :
    ∃ sa so ca co cs, E = .returned (.tuple #[.agg #[.int .i64 m.k, .int .i64 m.e, .int .u8 m.r, .int .i64 m.n, .slice sa m.ss.length so, .int .i64 m.f, .int .i64 m.p, .slice ca m.cs.length co], .int .i64 g]) ∧ Tld w w' m sa so ca co cs := by
  obtain ⟨x, rfl, H⟩ := h
  obtain ⟨h1, h2, h3, h4⟩ := H.out
  obtain ⟨sa, so, hs, _, _⟩ := h2.is.s.shape
  obtain ⟨ca, co, hc, _, _⟩ := h2.is.c.1.shape
  subst h1
  have hl : (cvs x.cs).length = x.cs.length := cvs_n _
  have hx : mw17 x.m sa so ca co x.cs = x := by
    unfold mw17 Mw.m
    simp only
    rw [hl, ← hs, ← hc]
  refine ⟨sa, so, ca, co, x.cs, ?_, ⟨by rw [hx]; exact h2, by rw [hx]; exact h3, rfl, h4⟩⟩
  unfold mv Mw.m
  simp only
  rw [hl, ← hs, ← hc]

theorem Tld.is' {w w' : World} {m : Mm.Msg} {sa : Option Addr} {so : Nat} {ca : Option Addr} {co : Nat} {cs : List Cw} (h : Tld w w' m sa so ca co cs) : (mw17 m sa so ca co cs).m = m := by
  unfold mw17 Mw.m
  simp only
  rw [h.is]

theorem ex_lck : Shp.lck 3 (exL 6) = 0 := by rfl
theorem ex_n0 : Shp.nxtE 3 (exL 6) 0 = 0 ∧ Shp.nxt 3 (exL 6) 0 = ⟨2, 3, 0, 0, [], 1, 0, (exL 6).take 4⟩ := ⟨by rfl, by rfl⟩
theorem ex_n4 : Shp.nxtE 3 (exL 6) 4 = 0 ∧ Shp.nxt 3 (exL 6) 4 = ⟨2, 3, 0, 0, [], 5, 1, [⟨1, 5, [exO17]⟩, ⟨3, 6, [exO17]⟩]⟩ := ⟨by rfl, by rfl⟩
theorem ex_n6 : Shp.nxtE 3 (exL 6) 6 = 0 ∧ Shp.nxt 3 (exL 6) 6 = ⟨2, 3, 0, 0, [], 7, 3, []⟩ := ⟨by rfl, by rfl⟩
theorem ex_n7 : Shp.nxtE 3 (exL 6) 7 = 2 ∧ Shp.nxt 3 (exL 6) 7 = Mm.no := ⟨by rfl, by rfl⟩
theorem ex_n2 : Shp.nxtE 2 (exL 6) 0 = 15 ∧ Shp.nxt 2 (exL 6) 0 = Mm.no := ⟨by rfl, by rfl⟩
theorem ex_h : Shp.helE 3 1 (exL 6) = 0 ∧ Shp.hel 3 1 (exL 6) = ⟨1, 3, 1, 6, [(1, 1), (3, 6)], 0, 0, []⟩ := ⟨by rfl, by rfl⟩
theorem ex_h0 : Shp.helE 3 0 [] = 2 ∧ Shp.hel 3 0 [] = Mm.no := ⟨by rfl, by rfl⟩
theorem ex_a : Shp.ackE 2 7 = 0 ∧ Shp.ack 2 7 = ⟨3, 2, 0, 7, [], 0, 0, []⟩ := ⟨by rfl, by rfl⟩
theorem ex_a0 : Shp.ackE 0 7 = 2 ∧ Shp.ack 0 7 = Mm.no := ⟨by rfl, by rfl⟩

end Go.Proofs.Ytabfihicdphjeaa

/- Law 17: lives. -/
namespace Go.Proofs.Ytabfihicdphjeaa
open Go.RowKit
set_option linter.unusedVariables false

/-- What a list of the chapter's log is. -/
structure Ex6 (w w' : World) (v : Value) (rs : List Cw) : Prop where
  sh : ShS w.heap.size w' v rs
  is : cvs rs = exL 6
  bel : Below w.heap.size w w'

theorem Ex6.isC {w w' : World} {v : Value} {rs : List Cw} (h : Ex6 w w' v rs) : IsC w' v rs := ⟨h.sh.c.row, fun c hc => ⟨(h.sh.o c hc).is, h.sh.i c hc⟩⟩
theorem Ex6.len {w w' : World} {v : Value} {rs : List Cw} (h : Ex6 w w' v rs) : rs.length = 6 := by
  rw [← cvs_n, h.is]
  rfl
theorem ex6_of {w w' : World} {E : Ending} (h : ExR w E w') : ∃ v rs, E = .returned v ∧ Ex6 w w' v rs := by
  obtain ⟨v, rs, h1, h2, h3, h4⟩ := h
  exact ⟨v, rs, h1, h2, h3, h4⟩

/-- Next of the chapter's log. -/
theorem ex_next (e k : Int) (w w' : World) (v : Value) (rs : List Cw) (h : Ex6 w w' v rs) (he : In64 e) (hk : In64 k) :
    Calls Try.prog 7 #[.int .i64 e, v, .int .i64 k] w' (DecR w' (Shp.nxt e (exL 6) k) (Shp.nxtE e (exL 6) k)) := by
  have := pnext_any e k v rs w' h.isC h.sh.f (by rw [h.len]; omega) he hk
  rw [h.is] at this
  exact this
theorem ex_hello (e r : Int) (w w' : World) (v : Value) (rs : List Cw) (h : Ex6 w w' v rs) (he : In64 e) (h0 : 0 ≤ r) (h1 : r < 256) :
    Calls Try.prog 9 #[.int .i64 e, .int .u8 r, v] w' (DecR w' (Shp.hel e r (exL 6)) (Shp.helE e r (exL 6))) := by
  have := phello_any e r v rs w' h.isC h.sh.f (by rw [h.len]; omega) he h0 h1
  rw [h.is] at this
  exact this

set_option maxRecDepth 20000 in
set_option maxHeartbeats 1000000 in
theorem lives17_any (w : World) : Calls Try.prog 12 #[] w fun E w' => E = .returned (.bool true) ∧ Below w.heap.size w w' := by
  go_enter Try.func12, Try.ntmps12
  go_wp2_with fail
  refine (example17_any w).mono ?_
  intro E w1 hE
  obtain ⟨v1, r1, rfl, h1⟩ := ex6_of hE
  obtain ⟨xa, xk, hv1, _, _⟩ := h1.sh.c.row.shape
  have X1 := hide (ex_next 3 4 w w1 v1 r1 h1 (by simp [In64]) (by simp [In64]))
  rw [ex_n4.1, ex_n4.2] at X1
  have B1 := hide h1.bel
  rw [hv1] at X1
  rw [hv1]
  clear hE h1 hv1
  go_wp2_with fail
  refine X1.out.mono ?_
  intro E w2 hE
  obtain ⟨sa, so, ca, co, cs, rfl, T2⟩ := hE.open
  simp only [List.length_nil, List.length_cons, Nat.reduceAdd]
  have B2 := hide (B1.out.trans (T2.bel.mono B1.out.size))
  obtain ⟨w3, hw3, hw3', sz3, b3, hM, ⟨a0, a1, a2, a3, a4, a5, a6, a7⟩⟩ := new8 w2 26 (.int .i64 0) (.int .i64 0) (.int .u8 0) (.int .i64 0) (.slice none 0 0) (.int .i64 0) (.int .i64 0) (.slice none 0 0) (.int .i64 2) (.int .i64 3) (.int .u8 0) (.int .i64 0) (.slice sa 0 so) (.int .i64 5) (.int .i64 1) (.slice ca 2 co)
  have B3 := hide (B2.out.trans (b3.mono B2.out.size))
  have HM := hide hM
  clear X1 hE hw3 b3 hM T2 B1 B2
  go_wp2_with fail
  refine (example17_any w3).mono ?_
  intro E w4 hE
  obtain ⟨v4, r4, rfl, h4⟩ := ex6_of hE
  obtain ⟨ya, yk, hv4, _, _⟩ := h4.sh.c.row.shape
  have X4 := hide (ex_hello 3 1 w3 w4 v4 r4 h4 (by simp [In64]) (by omega) (by omega))
  rw [ex_h.1, ex_h.2] at X4
  have B4 := hide (B3.out.trans (h4.bel.mono B3.out.size))
  have M4 := hide ((h4.bel.block w2.heap.size (by omega)).trans HM.out)
  rw [hv4] at X4
  rw [hv4]
  have m4 := h4.bel.size
  clear hE h4 hv4 HM B3 a0 a1 a2 a3 a4 a5 a6 a7 hw3'
  go_wp2_with fail
  refine X4.out.mono ?_
  intro E w5 hE
  obtain ⟨ta, to, da, dk, ds, rfl, T5⟩ := hE.open
  simp only [List.length_nil, List.length_cons, Nat.reduceAdd]
  have B5 := hide (B4.out.trans (T5.bel.mono B4.out.size))
  have M5 := (T5.bel.block w2.heap.size (by omega)).trans M4.out
  obtain ⟨w6, hw6, hw6', sz6, b6, hM6, ⟨c0, c1, c2, c3, c4, c5, c6, c7⟩⟩ := new8 w5 26 (.int .i64 0) (.int .i64 0) (.int .u8 0) (.int .i64 0) (.slice none 0 0) (.int .i64 0) (.int .i64 0) (.slice none 0 0) (.int .i64 1) (.int .i64 3) (.int .u8 1) (.int .i64 6) (.slice ta 2 to) (.int .i64 0) (.int .i64 0) (.slice da 0 dk)
  have B6 := hide (B5.out.trans (b6.mono B5.out.size))
  have M6 := (b6.block w2.heap.size (blk_lt M5)).trans M5
  obtain ⟨a0, a1, a2, a3, a4, a5, a6, a7⟩ := ei_of M6
  obtain ⟨w7, hw7, sz7, b7, o7⟩ := sts_step w6 #[.int .i64 1, .int .i64 1, .int .i64 3, .int .i64 6] 2 [(1, 1), (3, 6)] rfl rfl (by simp [maxLen])
  have B7 := hide (B6.out.trans (b7.mono B6.out.size))
  have SM := hide (msameK_any (mw17 ⟨1, 3, 1, 6, [(1, 1), (3, 6)], 0, 0, []⟩ ta to da dk ds) ⟨1, 3, 1, 6, .slice (some ⟨w6.heap.size, 0, none⟩) 2 2, [(1, 1), (3, 6)], 0, 0, .slice none 0 0, []⟩ w7 ((T5.own.is.below b6).below b7) ⟨o7.row, IsC.nil _⟩ T5.fit (fit_hel (by simp [In64]) (by omega) (by omega) (by simp [In64]) (by simp)))
  rw [T5.is', show smM ⟨1, 3, 1, 6, [(1, 1), (3, 6)], 0, 0, []⟩ (Mw.m ⟨1, 3, 1, 6, .slice (some ⟨w6.heap.size, 0, none⟩) 2 2, [(1, 1), (3, 6)], 0, 0, .slice none 0 0, []⟩) = true from smM_iff.2 rfl] at SM
  unfold mv mw17 at SM
  simp only [List.length_nil, List.length_cons, Nat.reduceAdd] at SM
  clear X4 hE hw6 b6 hM6 T5 B4 B5 B6 b7 o7 M4 M5 M6 m4 sz3 sz6 sz7
  go_wp2_with fail
  refine SM.out.mono ?_
  rintro E w8 ⟨rfl, b8⟩
  have B8 := hide (B7.out.trans (b8.mono B7.out.size))
  clear SM b8 B7
  go_wp2
  go_ret
  exact ⟨rfl, B8.out⟩

end Go.Proofs.Ytabfihicdphjeaa
