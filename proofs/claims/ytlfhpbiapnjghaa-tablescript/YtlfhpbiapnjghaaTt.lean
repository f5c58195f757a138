/- The statement's own: does a table tell what the document's does (same)? -/
import Derived.Test.YtlfhpbiapnjghaaTp
import Derived.Test.YtlfhpbiapnjghaaTv
import Derived.Test.YtlfhpbiapnjghaaFrt
import Derived.Deep.RegionHeld3
namespace Go.Proofs.Ytlfhpbiapnjghaa
open Go.RowKit
open Bm (Ov)
set_option linter.unusedVariables false

theorem shape_len {e base : Nat} {w : World} {v : Value} {l : List Ov} (h : OwnO e base w v l) {n : Nat} (hn : l.length = n) : ∃ ao cap, v = .slice ao n cap := by
  obtain ⟨ao, cap, hv, _, _⟩ := h.is.shape
  exact ⟨ao, cap, by rw [hv, hn]⟩

set_option maxRecDepth 100000 in
set_option maxHeartbeats 8000000 in
theorem lsame_any (p b rr base : Nat) (w : World) (v vk : Value) (T : List Ov) (ks : List ByteArray) (h : Tb p b w T) (hd : Dt rr base w v T) (hf : FitO T) (hT : T.length ≤ 1200) (hk : IsS w vk ks) (hkf : FitS ks) (hkl : ks.length ≤ 40) :
    Calls Try.prog 22 #[.pointer (some ⟨p, 0, none⟩), .pointer (some ⟨rr, 0, none⟩), vk] w fun E w' => E = .returned (.bool true) ∧ Below w.heap.size w w' := by
  obtain ⟨n, hn⟩ : ∃ n, T.length = n := ⟨_, rfl⟩
  obtain ⟨n2, hn2⟩ : ∃ n, (Tm.live T).length = n := ⟨_, rfl⟩
  have hn2l : n2 ≤ n := by rw [← hn, ← hn2]; exact List.length_filter_le _ _
  obtain ⟨ao, cap, hv⟩ := shape_len hd.own hn
  subst hv
  have XL : Hid (∀ W, Below w.heap.size w W → Calls Try.prog 12 #[.pointer (some ⟨p, 0, none⟩)] W fun E w' => E = .returned (.int .i64 n) ∧ W = w') := hide fun W hb => by
    have := tlen_any p b W T (h.below hb)
    rw [hn] at this
    exact this
  have XA : Hid (∀ W, Below w.heap.size w W → Calls Try.prog 24 #[.pointer (some ⟨p, 0, none⟩), .int .i64 (IntKind.i64.wrap ((n : Int) + 1))] W fun E w' => ∃ a1 c1, E = .returned (.slice a1 n c1) ∧ Hid (IsO w' (.slice a1 n c1) T) ∧ Below w.heap.size w w') := hide fun W hb => by
    have := lall_any (.pointer (some ⟨p, 0, none⟩)) W T (n + 1) (by omega) (tops_of (h.below hb) hf (by omega))
    rw [List.take_of_length_le (by omega)] at this
    have hw : IntKind.i64.wrap ((n : Int) + 1) = ((n + 1 : Nat) : Int) := by rw [IntKind.wrap_i64]; omega
    rw [hw]
    refine this.mono ?_
    rintro E w' ⟨u, rfl, ho, bb⟩
    obtain ⟨a1, c1, rfl⟩ := shape_len ho hn
    exact ⟨a1, c1, rfl, hide ho.is, hb.trans (bb.mono hb.size)⟩
  have XAR : Hid (∀ W, Below w.heap.size w W → Calls Try.prog 25 #[.pointer (some ⟨rr, 0, none⟩)] W fun E w' => ∃ a1 c1, E = .returned (.slice a1 n c1) ∧ Hid (IsO w' (.slice a1 n c1) T) ∧ Hid (Below W.heap.size W w') ∧ Below w.heap.size w w') := hide fun W hb => by
    refine (allR_any rr base W _ T (hd.below hb) (by omega)).mono ?_
    rintro E w' ⟨u, rfl, ho, bb⟩
    obtain ⟨a1, c1, rfl⟩ := shape_len ho hn
    exact ⟨a1, c1, rfl, hide ho.is, hide bb, hb.trans (bb.mono hb.size)⟩
  have XLI : Hid (∀ W, Below w.heap.size w W → Calls Try.prog 14 #[.pointer (some ⟨p, 0, none⟩)] W fun E w' => ∃ a1 c1, E = .returned (.slice a1 n2 c1) ∧ Hid (IsO w' (.slice a1 n2 c1) (Tm.live T)) ∧ Below w.heap.size w w') := hide fun W hb => by
    refine (llive_any (.pointer (some ⟨p, 0, none⟩)) W T (by omega) (tops_of (h.below hb) hf (by omega))).mono ?_
    rintro E w' ⟨u, rfl, ho, bb⟩
    obtain ⟨a1, c1, rfl⟩ := shape_len ho hn2
    exact ⟨a1, c1, rfl, hide ho.is, hb.trans (bb.mono hb.size)⟩
  have XLR : Hid (∀ W, Below w.heap.size w W → Calls Try.prog 34 #[.pointer (some ⟨rr, 0, none⟩)] W fun E w' => ∃ a1 c1, E = .returned (.slice a1 n2 c1) ∧ Hid (IsO w' (.slice a1 n2 c1) (Tm.live T)) ∧ Hid (Below W.heap.size W w') ∧ Below w.heap.size w w') := hide fun W hb => by
    refine (liveR_any rr base W _ T (hd.below hb) (by omega)).mono ?_
    rintro E w' ⟨u, rfl, ho, bb⟩
    obtain ⟨a1, c1, rfl⟩ := shape_len ho hn2
    exact ⟨a1, c1, rfl, hide ho.is, hide bb, hb.trans (bb.mono hb.size)⟩
  have XSO : Hid (∀ (v1 v2 : Value) (l : List Ov) (W : World), IsO W v1 l → IsO W v2 l → l.length ≤ 1200 → Below w.heap.size w W → Calls Try.prog 13 #[v1, v2] W fun E w' => E = .returned (.bool true) ∧ Below w.heap.size w w') := hide fun v1 v2 l W h1 h2 hl hb => by
    have := sameO_any v1 v2 l l W h1 h2 (by omega) (by omega)
    rw [Bm.sameL_self] at this
    refine this.mono ?_
    rintro E w' ⟨rfl, bb⟩
    exact ⟨rfl, hb.trans (bb.mono hb.size)⟩
  have FB : Hid (∀ W, Below w.heap.size w W → W.cell? ⟨rr, 1, none⟩ = some (.slice ao n cap)) := hide fun W hb => (hd.below hb).list
  have HG : Hid (∀ W, Below w.heap.size w W → Tb p b W T ∧ Dt rr base W (.slice ao n cap) T) := hide fun W hb => ⟨h.below hb, hd.below hb⟩
  have HTL : Hid (T.length ≤ 1200 ∧ (Tm.live T).length ≤ 1200) := hide (by omega)
  rw [hn] at hT
  have hni : ((n : Int) + 1) < 9223372036854775808 := by omega
  have HN := hide hn
  clear hn hn2
  obtain ⟨kao, kcap, hvk, _, _⟩ := RowG.shape hk
  subst hvk
  obtain ⟨m, hm⟩ : ∃ m, ks.length = m := ⟨_, rfl⟩
  have HKF := hide fun W (hb : Below w.heap.size w W) (h0 : 0 < ks.length) => IsS.full (RowG.below hk hb) h0
  rw [hm] at HKF hkl ⊢
  have HM := hide hm
  have HFS := hide hkf
  have ZB := hide (Below.refl w.heap.size w)
  have d0 := FB.out w ZB.out
  clear h hd hf hk hkf hm
  go_enter Try.func22, Try.ntmps22
  go_wp2_with fail
  go_region_held3 (fun w' => w'.cell? ⟨rr, 1, none⟩ = some (.slice ao n cap))
    (first | exact FB.out _ b6 | exact FB.out _ b5 | exact FB.out _ b4 | exact FB.out _ b3 | exact FB.out _ b2 | exact FB.out _ b1 | exact FB.out _ (ZB.out.drew) | go_keep)
    (first
    | (go_at_call 12; refine (XL.out _ (ZB.out.drew)).mono ?_; rintro E wz ⟨rfl, rfl⟩)
    | (go_at_call 24; refine (XA.out _ (ZB.out.drew)).mono ?_; rintro E w1 ⟨a1, c1, rfl, o1, b1⟩)
    | (go_at_call 25; refine (XAR.out _ b1).mono ?_; rintro E w2 ⟨a2, c2, rfl, o2, b12, b2⟩)
    | (go_at_call 13; refine (XSO.out _ _ (Tm.live T) _ (o4.out.below b45.out) o5.out HTL.out.2 b5).mono ?_; rintro E w6 ⟨rfl, b6⟩)
    | (go_at_call 13; refine (XSO.out _ _ T _ (o1.out.below b12.out) o2.out HTL.out.1 b2).mono ?_; rintro E w3 ⟨rfl, b3⟩)
    | (go_at_call 14; refine (XLI.out _ b3).mono ?_; rintro E w4 ⟨a4, c4, rfl, o4, b4⟩)
    | (go_at_call 34; refine (XLR.out _ b4).mono ?_; rintro E w5 ⟨a5, c5, rfl, o5, b45, b5⟩))
  have HB6 := hide b6
  clear XL XA XAR XLI XLR XSO b1 b2 b3 b4 b5 b6 b12 b45 o1 o2 o4 o5 d0
  go_wp2
  go_loopw [7] (fun i wr => ∃ (j : Nat), j ≤ m ∧ i = .int .i64 j ∧ Hid (Below w.heap.size w wr)) (fun i _ => m - (intOf i).toNat)
  case atStart => exact ⟨0, by omega, rfl, HB6⟩
  case round =>
    obtain ⟨j, hj, rfl, HBi⟩ := hrel
    by_cases hjt : j < m
    · have hjt' : (j : Int) < m := by omega
      have hj0 : (0 : Int) ≤ (j : Int) := by omega
      obtain ⟨key, hkey⟩ : ∃ o, ks[j]? = some o := ⟨ks[j]'(by have := HM.out; omega), by rw [List.getElem?_eq_getElem]⟩
      obtain ⟨b2, o2, cq2, hvx2, _, _, hB2, hcell2⟩ := HKF.out wr HBi.out (by omega)
      simp only [Value.slice.injEq, true_and] at hvx2
      obtain ⟨rfl, rfl⟩ := hvx2
      have e1 := hcell2 j key hkey
      have hks := HFS.out key (List.mem_of_getElem? hkey)
      have X1 := hide (tget_any p b wr T key (HG.out wr HBi.out).1 (by omega))
      have HCE : Hid (∀ W, Below wr.heap.size wr W → W.cell? ⟨b2, o2 + j, none⟩ = some (.string key)) := hide fun W hb => (hb.cell (p := ⟨b2, o2 + j, none⟩) hB2).trans e1
      clear hcell2 hkey
      go_wp2_with fail
      refine X1.out.mono ?_
      rintro E wc ⟨rfl, bc⟩
      have HBc := hide (HBi.out.trans (bc.mono HBi.out.size))
      have e2 := HCE.out wc bc
      have X2 := hide (getR_any rr base wc _ T key (HG.out wc HBc.out).2 (by have := HTL.out.1; omega))
      clear X1 bc e1
      go_wp2_with fail
      refine X2.out.mono ?_
      rintro E wd ⟨rfl, mm, hmm⟩
      have HBd : Hid (Below w.heap.size w wd) := hide (by rw [hmm]; exact below_drewN HBc.out _)
      clear X2 e2 hmm
      go_wp2
      go_roundw
      case rel => exact ⟨j + 1, by omega, by go_num, HBd⟩
      case measure => simp [intOf]; omega
    · have hjt' : ¬ (j : Int) < m := by omega
      go_wp2
      go_ret
      exact ⟨rfl, HBi.out⟩

end Go.Proofs.Ytlfhpbiapnjghaa
