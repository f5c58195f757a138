/- Texts of one layer, one behind the other. -/
import Derived.Test.YtfnaeblbodfekaaGJ
import Derived.Test.YtfnaeblbodfekaaG1
import Derived.Test.YtfnaeblbodfekaaGM
import Derived.Test.YtfnaeblbodfekaaG8
/- Law 18: log, shipped, small. -/
namespace Go.Proofs.Ytfnaeblbodfekaa
open Go.RowKit
open Bm (Ov)
set_option linter.unusedVariables false

/-- Commits of epochs, from a number on. -/
def exO18 : Ov := ⟨false, ⟨#[107]⟩, ⟨#[]⟩⟩
def mkl (f : Nat) : List Int → List Cm.Cv
  | [] => []
  | e :: r => ⟨e, f, [exO18]⟩ :: mkl (f + 1) r

theorem mkl_snoc : ∀ (es : List Int) (f : Nat) (e : Int), mkl f (es ++ [e]) = mkl f es ++ [⟨e, ((f + es.length : Nat) : Int), [exO18]⟩]
  | [], f, e => rfl
  | x :: r, f, e => by
    have := mkl_snoc r (f + 1) e
    simp only [List.cons_append, mkl, this, List.length_cons]
    rw [show f + 1 + r.length = f + (r.length + 1) by omega]

/-- What log comes to. -/
def LgR (w : World) (l : List Cm.Cv) (E : Ending) (w' : World) : Prop := ∃ v rs, E = .returned v ∧ Hid (ShS w.heap.size w' v rs ∧ cvs rs = l ∧ Below w.heap.size w w')

set_option maxRecDepth 20000 in
set_option maxHeartbeats 2000000 in
theorem log18_any (f : Nat) (ev : Value) (es : List Int) (w : World) (h : Is .i64 w ev es) (hf : f ≤ 100) (hl : es.length ≤ 10) (he : ∀ e ∈ es, 0 ≤ e ∧ e ≤ 100) :
    Calls Try.prog 7 #[.int .i64 (f : Int), ev] w (LgR w (mkl f es)) := by
  obtain ⟨ao, cap, hvl, _, _⟩ := h.shape
  have HI := hide h
  have HEE := hide he
  rw [hvl] at HI
  subst hvl
  clear h he
  go_enter Try.func7, Try.ntmps7
  go_wp2
  go_loopw [5, 6] (fun lv iv wr => ∃ (i : Nat) (cs : List Cw) (va : Option Addr) (vn vk : Nat), lv = .slice va vn vk ∧ iv = .int .i64 (i : Int) ∧ i ≤ es.length ∧ cs.length = i ∧ Hid (ShS w.heap.size wr (.slice va vn vk) cs ∧ cvs cs = mkl f (es.take i) ∧ Below w.heap.size w wr)) (fun _ iv _ => es.length - (intOf iv).toNat)
  case atStart => exact ⟨0, [], none, 0, 0, rfl, rfl, by omega, rfl, hide ⟨ShS.nil _ _, rfl, Below.refl _ _⟩⟩
  case round =>
    obtain ⟨i, cs, va, vn, vk, rfl, rfl, hi, hcs, HS⟩ := hrel
    by_cases hlt : i < es.length
    · have hlt' : (i : Int) < es.length := by omega
      have hi0 : (0 : Int) ≤ (i : Int) := by omega
      obtain ⟨b, off, cap', hvx, _, _, hb, hcell⟩ := (HI.out.below HS.out.2.2).full (by omega)
      simp only [Value.slice.injEq, true_and] at hvx
      obtain ⟨x, hx⟩ : ∃ x, es[i]? = some x := ⟨es[i], List.getElem?_eq_getElem hlt⟩
      have hxb := HEE.out x (List.mem_of_getElem? hx)
      have d0 := hcell i hlt
      rw [show es.getD i 0 = x by rw [List.getD_eq_getElem?_getD, hx]; rfl] at d0
      obtain ⟨rfl, rfl⟩ := hvx
      have htk : es.take (i + 1) = es.take i ++ [x] := by
        obtain ⟨h1, h2⟩ := List.getElem?_eq_some_iff.1 hx
        rw [List.take_succ_eq_append_getElem h1, h2]
      have hsz := HS.out.2.2.size
      obtain ⟨W1, hW1, sz1, b1, o1⟩ := ops_step 59 wr #[.bool false, .string ⟨#[107]⟩, .string ⟨#[]⟩] 1 [exO18] rfl rfl (by simp [maxLen])
      have hfit : CFit x ((f : Int) + (i : Int)) [exO18] := ⟨⟨by omega, by omega⟩, ⟨by omega, by omega⟩, fun o ho => by rw [List.mem_singleton.1 ho]; exact ⟨by decide, by decide⟩, by simp⟩
      have PU : Hid (∃ V, W1.alloc (.cells #[.int .i64 x, .int .i64 ((f : Int) + (i : Int)), .slice (some ⟨wr.heap.size, 0, none⟩) 1 1] 50) = V ∧ ∀ ty, ∃ v2 w2, (Builtin.append_ #[22, 22] ty #[.slice va vn vk, .slice (some ⟨W1.heap.size, 0, none⟩) 1 1]).run Try.prog V = .ok v2 w2 ∧ (∃ cs2, cs2.length = i + 1 ∧ Hid (ShS w.heap.size w2 v2 cs2 ∧ cvs cs2 = mkl f (es.take (i + 1)) ∧ Below w.heap.size w w2)) ∧ ∃ a n k, v2 = .slice a n k) := hide (by
        obtain ⟨V, hV, bV, szV, hpu⟩ := HS.out.1.push hsz b1 ⟨x, (f : Int) + (i : Int), .slice (some ⟨wr.heap.size, 0, none⟩) 1 1, [exO18]⟩ o1 hfit (by omega)
        refine ⟨V, hV, fun ty => ?_⟩
        obtain ⟨v2, w2, hr, sh2, gr2, hsl⟩ := hpu ty
        refine ⟨v2, w2, hr, ⟨_, by rw [List.length_append, hcs]; rfl, hide ⟨sh2, ?_, ?_⟩⟩, hsl⟩
        · rw [htk, mkl_snoc, ← HS.out.2.1, List.length_take, Nat.min_eq_left (by omega)]
          simp [cvs, Cw.c]
        · have bV' : Below w.heap.size w V := HS.out.2.2.trans ((b1.trans (bV.mono b1.size)).mono hsz)
          exact bV'.grown gr2 bV'.size fun g hg => (World.ownsRow.lt HS.out.1.c g hg).1)
      obtain ⟨V, hV, hpu⟩ := PU.out
      have HPU := hide hpu
      rw [sz1] at HPU
      have hw0 : IntKind.i64.wrap ((f : Int) + (i : Int)) = (f : Int) + (i : Int) := wrap64s _ (by omega) (by omega)
      clear PU hpu HS b1 o1 hfit htk hcell hx hxb
      go_wp2_with (at_builtin; refine wpList_append_at rfl (.tmp 13) (.tmp 24) 22 rfl (.slice va vn vk) (.slice (some ⟨wr.heap.size + 1, 0, none⟩) 1 1) rfl rfl HPU.out ?_; rintro v8 w8 ⟨⟨cs2, hc2, H8⟩, a8, n8, k8, rfl⟩)
      go_wp2
      go_roundw
      case rel => exact ⟨i + 1, cs2, a8, n8, k8, rfl, by go_num, by omega, hc2, H8⟩
      case measure => simp [intOf]; omega
    · have hlt' : ¬ (i : Int) < es.length := by omega
      have hie : es.take i = es := List.take_of_length_le (by omega)
      rw [hie] at HS
      go_wp2
      go_ret
      exact ⟨_, cs, rfl, HS⟩

set_option maxHeartbeats 1000000 in
theorem shipped18_any (e f p : Int) (va : Option Addr) (vn vk : Nat) (w : World) :
    Calls Try.prog 9 #[.int .i64 e, .int .i64 f, .int .i64 p, .slice va vn vk] w fun E w' => E = .returned (.agg #[.int .i64 2, .int .i64 e, .int .u8 0, .int .i64 0, .slice none 0 0, .int .i64 f, .int .i64 p, .slice va vn vk]) ∧ Below w.heap.size w w' := by
  obtain ⟨w1, hw1, sz1, bel1, hR⟩ := blk_step w #[.int .i64 0, .int .i64 0, .int .u8 0, .int .i64 0, .slice none 0 0, .int .i64 0, .int .i64 0, .slice none 0 0] 30
  obtain ⟨Z, hZ, gZ, ⟨a0, a1, a2, a3, a4, a5, a6, a7⟩, fr, ⟨z0, z1, z2, z3, z4, z5, z6, z7⟩⟩ := put_no hR (.int .i64 2) (.int .i64 e) (.int .u8 0) (.int .i64 0) (.slice none 0 0) (.int .i64 f) (.int .i64 p) (.slice va vn vk)
  have f0 := fr 0; have f1 := fr 1; have f2 := fr 2; have f3 := fr 3; have f4 := fr 4; have f5 := fr 5; have f6 := fr 6; have f7 := fr 7
  have belZ := below_put bel1 gZ (Nat.le_refl _) (by omega)
  clear hR gZ fr bel1
  go_enter Try.func9, Try.ntmps9
  go_wp2
  refine bodyPost_ret (v := .agg #[.int .i64 2, .int .i64 e, .int .u8 0, .int .i64 0, .slice none 0 0, .int .i64 f, .int .i64 p, .slice va vn vk]) (by simp [results, Try.results9, go_sem, z0, z1, z2, z3, z4, z5, z6, z7]) rfl ?_
  exact ⟨rfl, belZ⟩

/-- What is gone through. -/
def Sm18 (rs : List Cw) : Prop := rs.length ≤ 40 ∧ ∀ c ∈ rs, c.l.length ≤ 40

/-- What small comes to. -/
def SmR18 (rs : List Cw) (w : World) (E : Ending) (w' : World) : Prop := (∃ b : Bool, E = .returned (.bool b) ∧ (b = true → Sm18 rs)) ∧ w = w'

set_option maxHeartbeats 1000000 in
theorem small18_any (v : Value) (rs : List Cw) (w : World) (h : IsC w v rs) (hl : rs.length ≤ 140737488355328) :
    Calls Try.prog 12 #[v] w (SmR18 rs w) := by
  obtain ⟨ao, cap, hvl, hcap, hcm⟩ := h.1.shape
  have HI := hide h
  have HL : Hid (∀ c ∈ rs, ∃ a k, c.v = .slice a c.l.length k) := hide fun c hc => by
    obtain ⟨a, k, e, _⟩ := (h.2 c hc).1.shape
    exact ⟨a, k, e⟩
  subst hvl
  clear h
  go_enter Try.func12, Try.ntmps12
  go_wp2
  go_loopw [3] (fun iv wr => ∃ i : Nat, iv = .int .i64 i ∧ i ≤ rs.length ∧ Hid (∀ c ∈ rs.take i, c.l.length ≤ 40) ∧ wr = w) (fun iv _ => rs.length - (intOf iv).toNat)
  case atStart => exact ⟨0, rfl, by omega, hide fun c hc => by simp at hc, rfl⟩
  case round =>
    obtain ⟨i, rfl, hi, HT, rfl⟩ := hrel
    by_cases hlt : i < rs.length
    · obtain ⟨b, off, cap', hvx, _, _, _, hcell⟩ := HI.out.1.full (by omega)
      simp only [Value.slice.injEq, true_and] at hvx
      obtain ⟨rfl, rfl⟩ := hvx
      obtain ⟨c, hc⟩ : ∃ c, rs[i]? = some c := ⟨rs[i], List.getElem?_eq_getElem hlt⟩
      obtain ⟨d0, d1, d2⟩ := hcell i c hc
      obtain ⟨a, k, hcv⟩ := HL.out c (List.mem_of_getElem? hc)
      rw [hcv] at d2
      have hlt' : (i : Int) < rs.length := by omega
      have hi0 : (0 : Int) ≤ (i : Int) := by omega
      by_cases h40 : 40 < c.l.length
      · have h40' : (40 : Int) < c.l.length := by omega
        clear hcell hc
        go_wp2
        go_ret
        exact ⟨⟨false, rfl, fun h => by simp at h⟩, rfl⟩
      · have h40' : ¬ (40 : Int) < c.l.length := by omega
        have HT2 : Hid (∀ d ∈ rs.take (i + 1), d.l.length ≤ 40) := hide fun d hd => by
          obtain ⟨h1, h2⟩ := List.getElem?_eq_some_iff.1 hc
          rw [List.take_succ_eq_append_getElem h1] at hd
          rcases List.mem_append.1 hd with hd | hd
          · exact HT.out d hd
          · rw [List.mem_singleton.1 hd, h2]; omega
        clear hcell hc HT
        go_wp2
        go_roundw
        case rel => exact ⟨i + 1, by go_num, by omega, HT2, by trivial⟩
        case measure => simp [intOf]; omega
    · have hlt' : ¬ (i : Int) < rs.length := by omega
      obtain rfl : i = rs.length := by omega
      rw [List.take_length] at HT
      go_wp2
      go_ret
      refine ⟨⟨_, rfl, fun h => ⟨?_, HT.out⟩⟩, rfl⟩
      have := of_decide_eq_true h
      omega

end Go.Proofs.Ytfnaeblbodfekaa

/- Law 18: what is told, opened; lives. -/
namespace Go.Proofs.Ytfnaeblbodfekaa
open Go.RowKit
set_option linter.unusedVariables false

/-- What was taken, or made by log. -/
structure Tkd (w w' : World) (a : Option Addr) (k : Nat) (cs : List Cw) (l : List Cm.Cv) : Prop where
  sh : ShS w.heap.size w' (.slice a l.length k) cs
  is : cvs cs = l
  bel : Below w.heap.size w w'

theorem Tkd.isC {w w' : World} {a : Option Addr} {k : Nat} {cs : List Cw} {l : List Cm.Cv} (h : Tkd w w' a k cs l) : IsC w' (.slice a l.length k) cs := ⟨h.sh.c.row, fun c hc => ⟨(h.sh.o c hc).is, h.sh.i c hc⟩⟩
theorem Tkd.len {w w' : World} {a : Option Addr} {k : Nat} {cs : List Cw} {l : List Cm.Cv} (h : Tkd w w' a k cs l) : cs.length = l.length := by rw [← cvs_n, h.is]

theorem tkd_of {w w' : World} {v : Value} {cs : List Cw} {l : List Cm.Cv} (h1 : ShS w.heap.size w' v cs) (h2 : cvs cs = l) (h3 : Below w.heap.size w w') : ∃ a k, v = .slice a l.length k ∧ Tkd w w' a k cs l := by
  obtain ⟨a, k, hv, _, _⟩ := h1.c.row.shape
  have hl : cs.length = l.length := by rw [← cvs_n, h2]
  rw [hl] at hv
  subst hv
  exact ⟨a, k, rfl, h1, h2, h3⟩

theorem TkR.open {w w' : World} {g : Int} {l : List Cm.Cv} {E : Ending} (h : TkR w g l E w') : ∃ a k cs, E = .returned (.tuple #[.slice a l.length k, .int .i64 g]) ∧ Tkd w w' a k cs l := by
  obtain ⟨v, cs, rfl, H⟩ := h
  obtain ⟨a, k, rfl, T⟩ := tkd_of H.out.1 H.out.2.1 H.out.2.2
  exact ⟨a, k, cs, rfl, T⟩

theorem LgR.open {w w' : World} {l : List Cm.Cv} {E : Ending} (h : LgR w l E w') : ∃ a k cs, E = .returned (.slice a l.length k) ∧ Tkd w w' a k cs l := by
  obtain ⟨v, cs, rfl, H⟩ := h
  obtain ⟨a, k, rfl, T⟩ := tkd_of H.out.1 H.out.2.1 H.out.2.2
  exact ⟨a, k, cs, rfl, T⟩

/-- A ship that may be. -/
theorem ship_ok {e f p : Int} {cs : List Cm.Cv} (h1 : 1 ≤ e ∧ e ≤ 1048576) (h2 : 1 ≤ f ∧ f ≤ 1048576) (h3 : 0 ≤ p ∧ p ≤ e) (h4 : p = 0 ↔ f = 1) (h5 : cs.length ≤ 4) (h6 : ∀ c ∈ cs, c.e ≤ e) (h7 : Cm.Good p (f - 1) cs) : Mm.Ok ⟨2, e, 0, 0, [], f, p, cs⟩ :=
  ⟨h1.1, h1.2, .inr (.inl ⟨rfl, h2.1, h2.2, h3.1, h3.2, h4, h5, h6, h7, rfl, rfl, rfl⟩)⟩

/-- Take of a ship of the statement's own. -/
theorem take_own (e : Int) (w w0 w1 : World) (a : Option Addr) (k : Nat) (rs : List Cw) (l : List Cm.Cv) (h : Tkd w0 w a k rs l) (hl : l.length ≤ 1000) (me f p : Int) (vc : Value) (cs : List Cw) (lc : List Cm.Cv) (b : Nat) (hs : ShS b w vc cs) (hc : cvs cs = lc) (he : In64 e) (hme : In64 me) (hf : In64 f) (hp : In64 p) (hcl : cs.length ≤ 1000) (hok : Mm.Ok ⟨2, me, 0, 0, [], f, p, lc⟩) :
    Calls Try.prog 8 #[.int .i64 e, .slice a l.length k, .agg #[.int .i64 2, .int .i64 me, .int .u8 0, .int .i64 0, .slice none 0 0, .int .i64 f, .int .i64 p, vc]] w (TkR w (Tak.tkE 0 e l ⟨2, me, 0, 0, [], f, p, lc⟩) (Tak.tk 0 e l ⟨2, me, 0, 0, [], f, p, lc⟩)) := by
  have hm : (sm2 me f p vc cs).m = ⟨2, me, 0, 0, [], f, p, lc⟩ := by
    unfold sm2 Mw.m
    simp only
    rw [hc]
  have := ptake_any e (.slice a l.length k) rs (sm2 me f p vc cs) 0 w h.isC h.sh.f (by rw [h.len]; omega) (own_sm hs).is (fit_shp hme hf hp hs.f (by omega)) (by rw [hm]; exact .inl ⟨rfl, hok⟩) he
  rw [hm, h.is] at this
  exact this

theorem lv_1 : Tak.tkE 0 3 (mkl 1 [1, 1, 3]) ⟨2, 3, 0, 0, [], 3, 1, mkl 3 [3, 3]⟩ = 0 ∧ Tak.tk 0 3 (mkl 1 [1, 1, 3]) ⟨2, 3, 0, 0, [], 3, 1, mkl 3 [3, 3]⟩ = mkl 4 [3] := ⟨by rfl, by rfl⟩
theorem lv_ok : Mm.Ok ⟨2, 3, 0, 0, [], 3, 1, mkl 3 [3, 3]⟩ := ship_ok (by omega) (by omega) (by omega) (by omega) (by decide) (fun c hc => by
  simp only [mkl, List.mem_cons, List.not_mem_nil, or_false] at hc
  rcases hc with rfl | rfl <;> simp) ⟨rfl, rfl, by simp, rfl, rfl, by simp, trivial⟩

set_option maxRecDepth 20000 in
set_option maxHeartbeats 4000000 in
theorem lives18_any (w : World) : Calls Try.prog 11 #[] w fun E w' => E = .returned (.bool true) ∧ Below w.heap.size w w' := by
  obtain ⟨l1, hl1⟩ : ∃ l, mkl 1 [1, 1, 3] = l := ⟨_, rfl⟩
  obtain ⟨l2, hl2⟩ : ∃ l, mkl 3 [3, 3] = l := ⟨_, rfl⟩
  obtain ⟨l3, hl3⟩ : ∃ l, mkl 4 [3] = l := ⟨_, rfl⟩
  have LV := hide (And.intro lv_1 lv_ok)
  rw [hl1, hl2, hl3] at LV
  have N3 : Hid (l3.length = 1) := hide (by rw [← hl3]; rfl)
  have N1 : Hid (l1.length = 3 ∧ l2.length = 2) := hide (by rw [← hl1, ← hl2]; exact ⟨rfl, rfl⟩)
  obtain ⟨w1, hw1, sz1, b1, o1⟩ := own_step .i64 3 w #[.int .i64 1, .int .i64 1, .int .i64 3] 3 [1, 1, 3] rfl rfl (by simp [maxLen]) (by decide)
  have X1 := hide (log18_any 1 _ [1, 1, 3] w1 o1.is (by omega) (by decide) (by decide))
  have LG2 : Hid (∀ W, ∃ V, W.alloc (.cells #[.int .i64 3, .int .i64 3] 3) = V ∧ Below W.heap.size W V ∧ Calls Try.prog 7 #[.int .i64 3, .slice (some ⟨W.heap.size, 0, none⟩) 2 2] V (LgR V l2)) := hide fun W => by
    obtain ⟨V, hV, _, bV, oV⟩ := own_step .i64 3 W #[.int .i64 3, .int .i64 3] 2 [3, 3] rfl rfl (by simp [maxLen]) (by decide)
    have := log18_any 3 _ [3, 3] V oV.is (by omega) (by decide) (by decide)
    rw [hl2] at this
    exact ⟨V, hV, bV, this⟩
  have LG3 : Hid (∀ W, ∃ V, W.alloc (.cells #[.int .i64 3] 3) = V ∧ Below W.heap.size W V ∧ Calls Try.prog 7 #[.int .i64 4, .slice (some ⟨W.heap.size, 0, none⟩) 1 1] V (LgR V l3)) := hide fun W => by
    obtain ⟨V, hV, _, bV, oV⟩ := own_step .i64 3 W #[.int .i64 3] 1 [3] rfl rfl (by simp [maxLen]) (by decide)
    have := log18_any 4 _ [3] V oV.is (by omega) (by decide) (by decide)
    rw [hl3] at this
    exact ⟨V, hV, bV, this⟩
  rw [hl1] at X1
  have B1 := hide b1
  clear b1 o1 sz1 hl1 hl2 hl3
  go_enter Try.func11, Try.ntmps11
  go_wp2_with fail
  refine X1.out.mono ?_
  intro E w2 hE
  obtain ⟨a2, k2, c2, rfl, T2⟩ := hE.open
  have B2 := hide (B1.out.trans (T2.bel.mono B1.out.size))
  obtain ⟨w3, hw3, b3, x3⟩ := LG2.out w2
  have X3 := hide x3
  have T2 := hide T2
  have B3 := hide b3
  clear hE X1 x3 b3 hw1
  go_wp2_with fail
  refine X3.out.mono ?_
  intro E w4 hE
  obtain ⟨a4, k4, c4, rfl, T4⟩ := hE.open
  have s4 : Below w2.heap.size w2 w4 := B3.out.trans (T4.bel.mono B3.out.size)
  have B4 := hide (B2.out.trans (s4.mono B2.out.size))
  have T2 : Hid (Tkd w1 w4 a2 k2 c2 l1) := hide ⟨T2.out.sh.below s4, T2.out.is, T2.out.bel.trans (s4.mono T2.out.bel.size)⟩
  have T4 := hide T4
  have X4 := hide (shipped18_any 3 3 1 a4 l2.length k4 w4)
  clear hE X3 s4 hw3 B2 B3
  go_wp2_with fail
  refine X4.out.mono ?_
  rintro E w5 ⟨rfl, b5⟩
  have B5 := hide (B4.out.trans (b5.mono B4.out.size))
  have X5 := hide (take_own 3 w5 w1 w5 a2 k2 c2 l1 ⟨T2.out.sh.below b5, T2.out.is, T2.out.bel.trans (b5.mono T2.out.bel.size)⟩ (by rw [N1.out.1]; omega) 3 3 1 (.slice a4 l2.length k4) c4 l2 w3.heap.size (T4.out.sh.below b5) T4.out.is (by simp [In64]) (by simp [In64]) (by simp [In64]) (by simp [In64]) (by rw [T4.out.len, N1.out.2]; omega) LV.out.2)
  rw [LV.out.1.1, LV.out.1.2] at X5
  clear X4 b5 T2 T4 B4
  go_wp2_with fail
  refine X5.out.mono ?_
  intro E w6 hE
  obtain ⟨a6, k6, c6, rfl, T6⟩ := hE.open
  have B6 := hide (B5.out.trans (T6.bel.mono B5.out.size))
  obtain ⟨w7, hw7, b7, x7⟩ := LG3.out w6
  have X7 := hide x7
  have T6 := hide T6
  have B7 := hide b7
  clear hE X5 x7 b7 B5
  go_wp2_with fail
  refine X7.out.mono ?_
  intro E w8 hE
  obtain ⟨a8, k8, c8, rfl, T8⟩ := hE.open
  have s8 : Below w6.heap.size w6 w8 := B7.out.trans (T8.bel.mono B7.out.size)
  have B8 := hide (B6.out.trans (s8.mono B6.out.size))
  have SM := hide (sameCs_any (.slice a6 l3.length k6) (.slice a8 l3.length k8) c6 c8 w8 (T6.out.isC.below s8) T8.isC T6.out.sh.f T8.sh.f (by rw [T6.out.len, N3.out]; omega) (by rw [T8.len, N3.out]; omega))
  rw [T6.out.is, T8.is, sameV_iff.2 rfl] at SM
  clear hE X7 s8 hw7 B6 B7 T6 T8
  go_wp2_with fail
  refine SM.out.mono ?_
  rintro E w9 ⟨rfl, b9⟩
  have B9 := hide (B8.out.trans (b9.mono B8.out.size))
  clear SM b9 B8
  go_wp2
  go_ret
  exact ⟨rfl, B9.out⟩

end Go.Proofs.Ytfnaeblbodfekaa
