/- Package script (layer 25): the statement of texts. -/
import Derived.Test.YtdlogcdpapknaaaGreatDoorTzm
import Derived.Test.YtdlogcdpapknaaaGreatDoorZW
import Derived.Test.YtdlogcdpapknaaaGreatDoorSyb
import Derived.Test.YtdlogcdpapknaaaGreatDoorSxu
namespace Go.Proofs.YtdlogcdpapknaaaGreatDoor
open Go.RowKit
set_option linter.unusedVariables false
set_option maxRecDepth 100000

theorem parseR_any (s : ByteArray) (w : World) (hs : s.size ≤ 140737488351232) : Calls Tryz.prog 18 #[.string s] w (ParE s.data.toList w) := parseR_of (fun s w h => lineR_any s w h) s w hs

theorem ok_len {a : Sct.Av} (h : Sct.Ok a) : a.ops.length ≤ 8 := by
  have ho := h.ops
  split at ho
  · exact (Bm.chkL_zero ho).2.1
  · rw [ho]; decide

set_option maxHeartbeats 8000000 in
theorem scriptTexts_walk (s : ByteArray) (v : Value) (l : List Aw) (w : World) (hs : s.size ≤ 140737488351232) (h : IsAs w v l) (hf : ∀ x ∈ l, FitA x) (hll : l.length * 72 ≤ 140737488351232) (hv : Vs w) : Calls Tryz.prog 5 #[.string s, v] w fun E w' => E = .returned (.bool true) ∧ Below w.heap.size w w' := by
  have AT := hide (fun W (hW : Below w.heap.size w W) => (h.below hW).at)
  have AS := hide h
  have V0 := hide hv
  have HF := hide hf
  obtain ⟨oa, oc, rfl, _, _⟩ := h.1.shape
  obtain ⟨n, hn⟩ : ∃ n, l.length = n := ⟨_, rfl⟩
  have HN := hide hn
  rw [hn] at hll AS ⊢
  have LV := hide (lives_any w hv)
  clear h hf hv hn
  go_enter Tryz.func5, Tryz.ntmps5
  go_wp2_with fail
  refine LV.out.mono ?_
  rintro E w1 ⟨rfl, b1⟩
  have B1 := hide b1
  clear b1 LV
  have ways : (8000 < s.size ∧ s.size ≤ 65536) ∨ (¬ (8000 < s.size ∧ s.size ≤ 65536)) := Classical.em _
  rcases ways with ⟨h8, h6⟩ | hno
  · have h8' : (8000 : Int) < s.size := by omega
    have h6' : (s.size : Int) ≤ 65536 := by omega
    go_wp2
    go_ret
    exact ⟨rfl, B1.out⟩
  go_upto_region 3 with fail
  go_cut [35] from 18 to 35 (fun v35 wx => v35 = .bool (decide (60 < n ∧ n ≤ 200)) ∧ wx = w1)
  case first =>
    by_cases h8 : 8000 < s.size
    · have h8' : (8000 : Int) < s.size := by omega
      have h6' : ¬ (s.size : Int) ≤ 65536 := by omega
      by_cases h60 : 60 < n
      · have h60' : (60 : Int) < n := by omega
        by_cases h200 : n ≤ 200
        · have h200' : (n : Int) ≤ 200 := by omega
          go_wp2
          go_meet
          case rel => exact ⟨by simp [h60, h200], rfl⟩
        · have h200' : ¬ (n : Int) ≤ 200 := by omega
          go_wp2
          go_meet
          case rel => exact ⟨by simp [h60, h200], rfl⟩
      · have h60' : ¬ (60 : Int) < n := by omega
        go_wp2
        go_meet
        case rel => exact ⟨by simp [h60], rfl⟩
    · have h8' : ¬ (8000 : Int) < s.size := by omega
      by_cases h60 : 60 < n
      · have h60' : (60 : Int) < n := by omega
        by_cases h200 : n ≤ 200
        · have h200' : (n : Int) ≤ 200 := by omega
          go_wp2
          go_meet
          case rel => exact ⟨by simp [h60, h200], rfl⟩
        · have h200' : ¬ (n : Int) ≤ 200 := by omega
          go_wp2
          go_meet
          case rel => exact ⟨by simp [h60, h200], rfl⟩
      · have h60' : ¬ (60 : Int) < n := by omega
        go_wp2
        go_meet
        case rel => exact ⟨by simp [h60], rfl⟩
  case rest =>
  obtain ⟨rfl, rfl⟩ := hcut
  clear hno
  cases hq : decide (60 < n ∧ n ≤ 200)
  case true =>
    go_wp2
    go_ret
    exact ⟨rfl, B1.out⟩
  clear hq
  go_wp2
  go_loopw [5] (fun iv wr => ∃ i : Nat, i ≤ n ∧ iv = .int .i64 i ∧ Below w.heap.size w wr) (fun iv _ => n - (intOf iv).toNat)
  case atStart => exact ⟨0, by omega, rfl, B1.out⟩
  case round =>
    obtain ⟨i, hi, rfl, bel⟩ := hrel
    by_cases hlt : i < n
    · have hlt' : (i : Int) < n := by omega
      obtain ⟨b, off, cap, hvv, hc⟩ := AT.out wr bel (by have := HN.out; omega)
      rw [HN.out] at hvv
      cases hvv
      obtain ⟨x, hx⟩ : ∃ x, l[i]? = some x := ⟨l[i]'(by have := HN.out; omega), List.getElem?_eq_getElem _⟩
      obtain ⟨⟨p0, p1, p2, p3, p4, p5⟩, ix⟩ := hc i x hx
      obtain ⟨xo, xc, hxv, _, _⟩ := ix.shape
      rw [hxv] at p5
      have BEL := hide bel
      obtain ⟨k, hk⟩ : ∃ k, x.a.ops.length = k := ⟨_, rfl⟩
      rw [hk] at p5
      clear hc ix hxv hx p0 p1 p2 p3 p4 hk
      by_cases h40 : 40 < k
      · have h40' : (40 : Int) < k := by omega
        go_wp2
        go_ret
        exact ⟨rfl, BEL.out⟩
      · have h40' : ¬ (40 : Int) < k := by omega
        go_wp2
        go_roundw
        case rel => exact ⟨i + 1, by omega, by go_num, BEL.out⟩
        case measure => simp [intOf]; omega
    · have hlt' : ¬ (i : Int) < n := by omega
      have BEL := hide bel
      have PS := hide (parse_any s wr (by omega) (V0.out.below bel))
      clear bel
      go_wp2_with fail
      refine PS.out.mono ?_
      rintro E w2 ⟨v2, ev2, l2, p2, e2, rfl, own2, er2, pr2, b2⟩
      have B2 := hide (BEL.out.trans (b2.mono BEL.out.size))
      have PR := hide (parseR_any s w2 (by omega))
      have IA2 := hide own2.is
      have ER2 := hide er2
      have PR2 := hide pr2
      clear own2 er2 pr2 b2 PS
      go_wp2_with fail
      refine PR.out.mono ?_
      rintro E w3 ⟨v3, l3, p3, e3, rfl, ia3, pr3, b3⟩
      obtain ⟨hm3, rfl, rfl⟩ := Sct.pres_one PR2.out pr3
      have HM3 := hide hm3
      have OL : Hid (∀ x ∈ l2, x.a.ops.length ≤ 8) := hide fun x hx => by
        by_cases he : e2 = 0
        · subst he
          exact ok_len ((pres_ok PR2.out).1 x.a (List.mem_map_of_mem hx))
        · have := pres_no PR2.out he
          rw [List.map_eq_nil_iff] at this
          rw [this] at hx
          simp at hx
      have LL : Hid (l2.length ≤ 200) := hide (by
        by_cases he : e2 = 0
        · subst he
          have := (pres_ok PR2.out).2.1
          rw [List.length_map] at this
          exact this
        · have := pres_no PR2.out he
          rw [List.map_eq_nil_iff] at this
          rw [this]
          simp)
      have B3 := hide (B2.out.trans (b3.mono B2.out.size))
      have IA2' := hide (IA2.out.below b3)
      have IA3 := hide ia3
      have ER3 := hide (ER2.out.below b3)
      have PT := hide (print_any _ l w3 (V0.out.below B3.out) (AS.out.below B3.out) HF.out (by have := HN.out; omega))
      clear hm3 pr3 b3 ia3 PR IA2 ER2 PR2
      go_wp2_with fail
      refine PT.out.mono ?_
      rintro E w4 ⟨s4, v4, p4, e4, rfl, er4, pr4, b4⟩
      have B4 := hide (B3.out.trans (b4.mono B3.out.size))
      have IA2 := hide (IA2'.out.below b4)
      have IA3' := hide (IA3.out.below b4)
      have ER2 := hide (ER3.out.below b4)
      have ER4 := hide er4
      have PR4 := hide pr4
      have QT := hide (printR_any _ l w4 (AS.out.below B4.out) HF.out (by have := HN.out; omega))
      clear er4 pr4 b4 PT IA2' IA3 ER3
      go_wp2_with fail
      refine QT.out.mono ?_
      rintro E w5 ⟨s5, p5, e5, rfl, pr5, b5⟩
      obtain ⟨hs5, rfl, rfl⟩ := prr_one PR4.out pr5
      obtain rfl : s4 = s5 := Sct.ba_ext hs5
      have B5 := hide (B4.out.trans (b5.mono B4.out.size))
      have SM := hide (sames_yes v2 v3 l2 l3 w5 (IA2.out.below b5) (IA3'.out.below b5) HM3.out (fun x hx => by have := OL.out x hx; omega) (by have := LL.out; omega))
      have ER3 := hide (ER2.out.below b5)
      have ER5 := hide (ER4.out.below b5)
      clear hs5 pr5 b5 QT IA2 IA3' ER2 ER4 PR4
      go_wp2_with fail
      refine SM.out.mono ?_
      rintro E w6 ⟨rfl, b6⟩
      have B6 := hide (B5.out.trans (b6.mono B5.out.size))
      have WR := hide (wrong_yes ev2 p2 e2 w6 (V0.out.below B6.out) (ER3.out.below b6))
      have ER6 := hide (ER5.out.below b6)
      clear b6 SM ER3 ER5
      go_wp2_with fail
      refine WR.out.mono ?_
      rintro E w7 ⟨rfl, b7⟩
      have B7 := hide (B6.out.trans (b7.mono B6.out.size))
      have WR2 := hide (wrong_yes v4 p4 e4 w7 (V0.out.below B7.out) (ER6.out.below b7))
      have hss : (s4.toList == s4.toList) = true := by simp
      clear b7 WR ER6
      go_wp2_with fail
      refine WR2.out.mono ?_
      rintro E w8 ⟨rfl, b8⟩
      have B8 := hide (B7.out.trans (b8.mono B7.out.size))
      clear b8 WR2
      go_wp2
      go_ret
      exact ⟨rfl, B8.out⟩

end Go.Proofs.YtdlogcdpapknaaaGreatDoor
