/- The program's link: New, find, put, Send. -/
import Derived.Test.YtadfbmglbaebiaaLa
import Derived.Test.YtadfbmglbaebiaaBcl
import Derived.Test.YtadfbmglbaebiaaGs
namespace Go.Proofs.Ytadfbmglbaebiaa
open Go.RowKit
set_option linter.unusedVariables false

/-- A new link. -/
theorem lnew_any (w : World) : Calls Try.prog 9 #[] w fun E w' => E = .returned (.pointer (some ⟨w.heap.size, 0, none⟩)) ∧ Lk false w.heap.size (fun g => g = w.heap.size) w' Lm.new ∧ Below w.heap.size w w' := by
  obtain ⟨w1, hw1, sz1, bel1, hB⟩ := blk_step w #[.bool true, .int .i64 0, .slice none 0 0] 53
  have D : Hid (Lk false w.heap.size (fun g => g = w.heap.size) w1 Lm.new) := ⟨.slice none 0 0, [], hB, rfl, OwnG.nil _ _ _ _ _, fun b hb => by simp [Value.ownBlock] at hb, fun r hr => by simp at hr, rfl, fun g hg => by omega⟩
  clear hB
  go_enter Try.func9, Try.ntmps9
  go_wp2
  go_ret
  exact ⟨rfl, D.out, bel1⟩

section
variable {p : Nat} {F : Nat → Prop} {w : World} {st : Lm.Ls} {v : Value} {rs : List Lw}
theorem LkV.p0 (h : LkV false p F w st v rs) : w.cell? ⟨p, 0, none⟩ = some (.bool true) := blk_cell h.blk 0 rfl
theorem LkV.p1 (h : LkV false p F w st v rs) : w.cell? ⟨p, 1, none⟩ = some (.int .i64 st.last) := blk_cell h.blk 1 rfl
theorem LkV.p2 (h : LkV false p F w st v rs) : w.cell? ⟨p, 2, none⟩ = some v := blk_cell h.blk 2 rfl
theorem LkV.froz {d : Bool} (h : LkV d p F w st v rs) (j : Nat) : w.frozen? ⟨p, j, none⟩ = false := blk_froz h.blk j
end

set_option maxHeartbeats 400000 in
theorem made_any (p : Nat) (F : Nat → Prop) (w : World) (st : Lm.Ls) (h : Lk false p F w st) : Calls Try.prog 27 #[.pointer (some ⟨p, 0, none⟩)] w fun E w' => E = .returned (.bool true) ∧ w = w' := by
  obtain ⟨v, rs, h⟩ := h
  have c0 := h.p0
  clear h
  go_enter Try.func27, Try.ntmps27
  go_wp2
  go_ret
  exact ⟨rfl, rfl⟩

set_option maxHeartbeats 400000 in
theorem site_any (to : Int) (w : World) : Calls Try.prog 28 #[.int .i64 to] w fun E w' => E = .returned (.bool (decide (to = 0 ∨ to = 1))) ∧ w = w' := by
  by_cases h0 : to = 0
  · subst h0
    go_enter Try.func28, Try.ntmps28
    go_wp2
    go_ret
    exact ⟨rfl, rfl⟩
  · by_cases h1 : to = 1
    · subst h1
      go_enter Try.func28, Try.ntmps28
      go_wp2
      go_ret
      exact ⟨rfl, rfl⟩
    · rw [decide_eq_false (by omega)]
      have e0 : (to == 0) = false := by simp [h0]
      have e1 : (to == 1) = false := by simp [h1]
      go_enter Try.func28, Try.ntmps28
      go_wp2
      go_ret
      exact ⟨rfl, rfl⟩

set_option maxHeartbeats 400000 in
theorem fnd1_any (n : Int) (B : Nat) (a b : Int) (v : Value) (w : World) (hB : w.cell? ⟨B, 0, none⟩ = some (.int .i64 n)) (hBl : B < w.heap.size) :
    Calls Try.prog 45 #[.agg #[.int .i64 a, .int .i64 b, v], .pointer (some ⟨B, 0, none⟩)] w fun E w' => E = .returned (.bool (a == n)) ∧ Below w.heap.size w w' := by
  obtain ⟨w1, hw1, sz1, bel1, hb⟩ := blk_step w #[.int .i64 a, .int .i64 b, v] 31
  have c0 : w1.cell? ⟨w.heap.size, 0, none⟩ = some (.int .i64 a) := blk_cell hb 0 rfl
  have cB := (bel1.cell (p := ⟨B, 0, none⟩) hBl).trans hB
  clear hb
  go_enter Try.func45, Try.ntmps45
  go_wp2
  go_ret
  exact ⟨rfl, bel1⟩

set_option maxHeartbeats 2000000 in
theorem idx_any (w : World) (v : Value) (rs : List Lw) (n : Int) (B : Nat) (h : OwnG letc 3 31 0 w v rs) (hs : ∀ r ∈ rs, ∃ a n c, r.v = .slice a n c) (hB : w.cell? ⟨B, 0, none⟩ = some (.int .i64 n)) (hBl : B < w.heap.size) (hl : rs.length ≤ 100000) :
    Calls Try.prog 44 #[v, .func (.func 45) #[] #[.pointer (some ⟨B, 0, none⟩)]] w fun E w' => E = .returned (.int .i64 (Lm.fnd (rs.map Lw.l) n)) ∧ Below w.heap.size w w' := by
  obtain ⟨ao, cap, hv, hcap, hcm⟩ := h.row.shape
  have HROW := hide fun (h0 : 0 < rs.length) => h.row.full letc_len (by decide) h0
  subst hv
  clear h
  go_enter Try.func44, Try.ntmps44
  go_wp2
  go_loopw [8] (fun iv wr => ∃ k : Nat, k ≤ rs.length ∧ iv = .int .i64 k ∧ Below w.heap.size w wr ∧ Hid (∀ (j : Nat) (y : Lm.Lt), j < k → (rs.map Lw.l)[j]? = some y → y.n ≠ n)) (fun iv _ => rs.length - (intOf iv).toNat)
  case atStart => exact ⟨0, by omega, rfl, Below.refl _ _, hide (fun j y hj => by omega)⟩
  case round =>
    obtain ⟨k, hk, rfl, bel, HT⟩ := hrel
    by_cases hlt : k < rs.length
    · obtain ⟨b, off, cq, hvx, _, _, hb, hcell⟩ := HROW.out (by omega)
      simp only [Value.slice.injEq, true_and] at hvx
      obtain ⟨rfl, rfl⟩ := hvx
      obtain ⟨r, hr⟩ : ∃ r, rs[k]? = some r := ⟨rs[k], by rw [List.getElem?_eq_getElem]⟩
      have e0 : wr.cell? ⟨b, off + k * 3, none⟩ = some (.int .i64 r.n) := (bel.cell (p := ⟨b, off + k * 3, none⟩) hb).trans (hcell k r hr 0 _ rfl)
      have e1 : wr.cell? ⟨b, off + k * 3 + 1, none⟩ = some (.int .i64 r.to) := (bel.cell (p := ⟨b, off + k * 3 + 1, none⟩) hb).trans (hcell k r hr 1 _ rfl)
      have e2 : wr.cell? ⟨b, off + k * 3 + 2, none⟩ = some r.v := (bel.cell (p := ⟨b, off + k * 3 + 2, none⟩) hb).trans (hcell k r hr 2 _ rfl)
      obtain ⟨ar, nr, cr, hrv⟩ := hs r (List.mem_of_getElem? hr)
      have hm : (rs.map Lw.l)[k]? = some r.l := by rw [List.getElem?_map, hr]; rfl
      have cB := (bel.cell (p := ⟨B, 0, none⟩) hBl).trans hB
      have sz := bel.size
      have FC := hide (fnd1_any n B r.n r.to r.v wr cB (by omega))
      have hlt' : (k : Int) < rs.length := by omega
      have hk0 : (0 : Int) ≤ (k : Int) := by omega
      rw [hrv] at e2 FC
      have HM := hide hm
      clear hcell hr hm hrv
      go_wp2_with fail
      refine FC.out.mono ?_
      rintro E w2 ⟨rfl, bel2⟩
      have bel02 := bel.trans (bel2.mono sz)
      by_cases he : r.n = n
      · have hb1 : (r.n == n) = true := by simp [he]
        rw [hb1]
        have hp : Lm.pl (rs.map Lw.l) n = k := Lm.pl_eq _ n k r.l HT.out HM.out he
        have hf : Lm.fnd (rs.map Lw.l) n = (k : Int) := by
          unfold Lm.fnd
          rw [hp, if_pos (by rw [List.length_map]; exact hlt)]
        have HF := hide hf
        clear hp hf HT HM he hb1
        go_wp2
        go_ret
        exact ⟨by rw [HF.out]; rfl, bel02⟩
      · have hb1 : (r.n == n) = false := by simp [he]
        rw [hb1]
        have HT2 : Hid (∀ (j : Nat) (y : Lm.Lt), j < k + 1 → (rs.map Lw.l)[j]? = some y → y.n ≠ n) := hide fun j y hj hy => by
          by_cases e : j = k
          · subst e
            rw [HM.out] at hy
            cases hy
            exact he
          · exact HT.out j y (by omega) hy
        clear HT HM he hb1
        go_wp2
        go_roundw
        case rel => exact ⟨k + 1, by omega, by go_num, bel02, HT2⟩
        case measure => simp [intOf]; omega
    · have hlt' : ¬ (k : Int) < rs.length := by omega
      have hp : Lm.pl (rs.map Lw.l) n = (rs.map Lw.l).length := Lm.pl_none _ n fun j y hy => HT.out j y (by have := (List.getElem?_eq_some_iff.1 hy).1; rw [List.length_map] at this; omega) hy
      have hf : Lm.fnd (rs.map Lw.l) n = -1 := by
        unfold Lm.fnd
        rw [hp, if_neg (by omega)]
      have HF := hide hf
      clear hp hf HT
      go_wp2
      go_ret
      exact ⟨by rw [HF.out]; rfl, bel⟩

set_option maxHeartbeats 1000000 in
theorem find_any (p : Nat) (F : Nat → Prop) (w : World) (st : Lm.Ls) (n : Int) (h : Lk false p F w st) (hl : st.fl.length ≤ 512) :
    Calls Try.prog 30 #[.pointer (some ⟨p, 0, none⟩), .int .i64 n] w fun E w' => E = .returned (.int .i64 (Lm.fnd st.fl n)) ∧ Below w.heap.size w w' := by
  obtain ⟨v, rs, h⟩ := h
  obtain ⟨w1, hw1, sz1, bel1, hb⟩ := blk_step w #[.int .i64 n] 3
  have cB : w1.cell? ⟨w.heap.size, 0, none⟩ = some (.int .i64 n) := blk_cell hb 0 rfl
  have h1 := h.below bel1
  have c2 := h1.p2
  have IX := hide (idx_any w1 v rs n w.heap.size h1.row (fun r hr => (h1.raw r hr).1.form) cB (by omega) (by rw [h.len]; omega))
  rw [h.fl] at IX
  obtain ⟨ao, cap, hv, _, _⟩ := h.row.row.shape
  rw [hv] at c2 IX
  clear h h1 hb cB hv
  go_enter Try.func30, Try.ntmps30
  go_wp2_with fail
  refine IX.out.mono ?_
  rintro E w2 ⟨rfl, bel2⟩
  go_wp2
  go_ret
  exact ⟨rfl, bel1.trans (bel2.mono (by omega))⟩

end Go.Proofs.Ytadfbmglbaebiaa
