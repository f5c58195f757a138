/- The document's link: place, without, Deliver, Drop, Twice, Flight. -/
import Derived.Test.YtadfbmglbaebiaaLra
namespace Go.Proofs.Ytadfbmglbaebiaa
open Go.RowKit Go.Shelf
set_option linter.unusedVariables false

set_option maxHeartbeats 2000000 in
theorem placeR_any (p : Nat) (F : Nat → Prop) (w : World) (st : Lm.Ls) (n : Int) (h : Lk true p F w st) (hl : st.fl.length ≤ 512) :
    Calls Try.prog 46 #[.pointer (some ⟨p, 0, none⟩), .int .i64 n] w fun E w' => E = .returned (.int .i64 (Lm.fnd st.fl n)) ∧ w = w' := by
  obtain ⟨v, rs, h⟩ := h
  have c1 := h.r1
  have hlr := h.len
  have HROW := hide fun (h0 : 0 < rs.length) => h.full h0
  obtain ⟨ao, cap, hv, hcap, hcm⟩ := h.row.row.shape
  rw [hv] at c1
  have HV := hide hv
  have hfl := h.fl
  rw [← hfl]
  have hLn : rs.length ≤ 512 := by omega
  clear h hfl hlr hv
  go_enter Try.func46, Try.ntmps46
  go_wp2
  go_loopw [5] (fun iv wr => ∃ k : Nat, k ≤ rs.length ∧ iv = .int .i64 k ∧ w = wr ∧ Hid (∀ (j : Nat) (y : Lm.Lt), j < k → (rs.map Lw.l)[j]? = some y → y.n ≠ n)) (fun iv _ => rs.length - (intOf iv).toNat)
  case atStart => exact ⟨0, by omega, rfl, rfl, hide (fun j y hj => by omega)⟩
  case round =>
    obtain ⟨k, hk, rfl, rfl, HT⟩ := hrel
    by_cases hlt : k < rs.length
    · obtain ⟨b, off, cq, hvx, _, _, hb, hcell⟩ := HROW.out (by omega)
      rw [HV.out] at hvx
      simp only [Value.slice.injEq, true_and] at hvx
      obtain ⟨rfl, rfl⟩ := hvx
      obtain ⟨r, hr⟩ : ∃ r, rs[k]? = some r := ⟨rs[k], by rw [List.getElem?_eq_getElem]⟩
      obtain ⟨e0, _, _⟩ := hcell k r hr
      have hm : (rs.map Lw.l)[k]? = some r.l := by rw [List.getElem?_map, hr]; rfl
      have hlt' : (k : Int) < rs.length := by omega
      have hk0 : (0 : Int) ≤ (k : Int) := by omega
      have HM := hide hm
      clear hcell hr hm
      by_cases he : r.n = n
      · have hp : Lm.pl (rs.map Lw.l) n = k := Lm.pl_eq _ n k r.l HT.out HM.out he
        have hf : Lm.fnd (rs.map Lw.l) n = (k : Int) := by
          unfold Lm.fnd
          rw [hp, if_pos (by rw [List.length_map]; exact hlt)]
        have HF := hide hf
        have hb1 : (r.n == n) = true := by simp [he]
        clear hp hf HT HM he
        go_wp2
        go_ret
        exact ⟨by rw [HF.out]; rfl, rfl⟩
      · have hb1 : (r.n == n) = false := by simp [he]
        have HT2 : Hid (∀ (j : Nat) (y : Lm.Lt), j < k + 1 → (rs.map Lw.l)[j]? = some y → y.n ≠ n) := hide fun j y hj hy => by
          by_cases e : j = k
          · subst e
            rw [HM.out] at hy
            cases hy
            exact he
          · exact HT.out j y (by omega) hy
        clear HT HM
        go_wp2
        go_roundw
        case rel => exact ⟨k + 1, by omega, by go_num, trivial, HT2⟩
        case measure => simp [intOf]; omega
    · have hlt' : ¬ (k : Int) < rs.length := by omega
      have hp : Lm.pl (rs.map Lw.l) n = (rs.map Lw.l).length := Lm.pl_none _ n fun j y hy => HT.out j y (by have := (List.getElem?_eq_some_iff.1 hy).1; rw [List.length_map] at this; omega) hy
      have hf : Lm.fnd (rs.map Lw.l) n = -1 := by
        unfold Lm.fnd
        rw [hp, if_neg (by omega)]
      have HF := hide hf
      clear hp hf HT
      go_wp2
      go_ret
      exact ⟨by rw [HF.out]; rfl, rfl⟩

/-- The first k letters but one. -/
def but {α : Type} (l : List α) (at' k : Nat) : List α := (l.take k).take at' ++ (l.take k).drop (at' + 1)

theorem but_eq {α : Type} (l : List α) (at' : Nat) : but l at' l.length = l.eraseIdx at' := by
  unfold but
  rw [List.take_length, List.eraseIdx_eq_take_drop_succ]

theorem but_same {α : Type} {l : List α} {at' k : Nat} {a : α} (h : l[k]? = some a) (hk : k = at') : but l at' (k + 1) = but l at' k := by
  obtain ⟨hl, he⟩ := List.getElem?_eq_some_iff.1 h
  subst hk
  unfold but
  rw [List.take_succ_eq_append_getElem hl, List.take_append, List.drop_append]
  have h1 : (l.take k).length = k := by rw [List.length_take]; omega
  simp [h1]

theorem but_next {α : Type} {l : List α} {at' k : Nat} {a : α} (h : l[k]? = some a) (hk : k ≠ at') : but l at' (k + 1) = but l at' k ++ [a] := by
  obtain ⟨hl, he⟩ := List.getElem?_eq_some_iff.1 h
  unfold but
  rw [List.take_succ_eq_append_getElem hl, he, List.take_append, List.drop_append]
  have h1 : (l.take k).length = k := by rw [List.length_take]; omega
  by_cases hlt : k < at'
  · have h2 : (l.take k).drop (at' + 1) = [] := List.drop_eq_nil_of_le (by omega)
    have h3 : [a].take (at' - k) = [a] := List.take_of_length_le (by simp; omega)
    have h4 : [a].drop (at' + 1 - k) = [] := List.drop_eq_nil_of_le (by simp; omega)
    simp only [h1, h2, h3, h4, List.append_nil]
  · have h3 : [a].take (at' - k) = [] := by rw [show at' - k = 0 by omega]; rfl
    have h4 : [a].drop (at' + 1 - k) = [a] := by rw [show at' + 1 - k = 0 by omega]; rfl
    simp only [h1, h3, h4, List.append_nil, List.append_assoc]

theorem but_len {α : Type} (l : List α) (at' k : Nat) : (but l at' k).length ≤ l.length := by
  unfold but
  simp only [List.length_append, List.length_take, List.length_drop]
  omega

set_option maxRecDepth 100000 in
set_option maxHeartbeats 2000000 in
theorem withoutR_any (p : Nat) (F : Nat → Prop) (w : World) (st : Lm.Ls) (v : Value) (rs : List Lw) (at' : Nat) (h : LkV true p F w st v rs) (hl : st.fl.length ≤ 512) :
    Calls Try.prog 47 #[.pointer (some ⟨p, 0, none⟩), .int .i64 at'] w fun E w' => ∃ v', E = .returned v' ∧ OwnG letc 3 31 w.heap.size w' v' (rs.eraseIdx at') ∧ Below w.heap.size w w' := by
  have c1 := h.r1
  have hlr := h.len
  have hpl := h.lt p h.inp
  have HROW := hide fun (h0 : 0 < rs.length) => h.full h0
  have HFORM := hide fun r hr => (h.raw r hr).1.form
  obtain ⟨ao, cap, hv, hcap, hcm⟩ := h.row.row.shape
  rw [hv] at c1
  have HV := hide hv
  have hLn : rs.length ≤ 512 := by omega
  clear h hlr hv
  go_enter Try.func47, Try.ntmps47
  go_wp2
  go_loopw [5, 6] (fun ov iv wr => ∃ k : Nat, k ≤ rs.length ∧ iv = .int .i64 k ∧ Hid (OwnG letc 3 31 w.heap.size wr ov (but rs at' k)) ∧ Below w.heap.size w wr) (fun _ iv _ => rs.length - (intOf iv).toNat)
  case atStart => exact ⟨0, by omega, rfl, hide (by simpa [but] using OwnG.nil _ _ _ _ _), Below.refl _ _⟩
  case round =>
    obtain ⟨k, hk, rfl, HT, bel⟩ := hrel
    have d1 := (bel.cell (p := ⟨p, 1, none⟩) hpl).trans c1
    by_cases hlt : k < rs.length
    · obtain ⟨b, off, cq, hvx, _, _, hb, hcell⟩ := HROW.out (by omega)
      rw [HV.out] at hvx
      simp only [Value.slice.injEq, true_and] at hvx
      obtain ⟨rfl, rfl⟩ := hvx
      obtain ⟨r, hr⟩ : ∃ r, rs[k]? = some r := ⟨rs[k], by rw [List.getElem?_eq_getElem]⟩
      obtain ⟨q0, q1, q2⟩ := hcell k r hr
      have e0 := (bel.cell (p := ⟨b, off + k * 3, none⟩) hb).trans q0
      have e1 := (bel.cell (p := ⟨b, off + k * 3 + 1, none⟩) hb).trans q1
      have e2 := (bel.cell (p := ⟨b, off + k * 3 + 2, none⟩) hb).trans q2
      obtain ⟨ar, nr, cr, hrv⟩ := HFORM.out r (List.mem_of_getElem? hr)
      have hlt' : (k : Int) < rs.length := by omega
      have hk0 : (0 : Int) ≤ (k : Int) := by omega
      have sz := bel.size
      by_cases he : k = at'
      · have hb1 : ((k : Int) == (at' : Int)) = true := by simp [he]
        have HT2 := hide (show OwnG letc 3 31 w.heap.size wr u5 (but rs at' (k + 1)) by rw [but_same hr he]; exact HT.out)
        have he' : (k : Int) = (at' : Int) := by omega
        clear hcell hr q0 q1 q2 hrv HT e0 e1 e2
        go_wp2
        go_roundw
        case rel => exact ⟨k + 1, by omega, by go_num, HT2, bel⟩
        case measure => simp [intOf]; omega
      · have hb1 : ((k : Int) == (at' : Int)) = false := by simp; omega
        obtain ⟨w5, hw5, sz5, bel5, row5⟩ := rows_step letc 3 letc_len 31 wr #[.int .i64 r.n, .int .i64 r.to, r.v] 1 [r] rfl rfl (by simp [maxLen])
        have X : Hid (∀ ov, OwnG letc 3 31 w.heap.size wr ov (but rs at' k) → ∀ ty, ∃ v' w', (Builtin.append_ #[45, 45] ty #[ov, .slice (some ⟨wr.heap.size, 0, none⟩) 1 1]).run Try.prog w5 = .ok v' w' ∧ (OwnG letc 3 31 w.heap.size w' v' (but rs at' (k + 1)) ∧ Below w.heap.size w w')) := hide fun ov hov ty => by
          have h1 := hov.agree (w' := w5) fun g hg => bel5.block g (hov.lt g hg).2
          have hbl := but_len rs at' k
          obtain ⟨v', w', hr', ho, hg, _⟩ := run_append_rows_at (P := Try.prog) (w := w5) 45 ty letc 3 40 letc_len (by decide) (by decide) (.agg #[.int .i64 0, .int .i64 0, .slice none 0 0]) rfl 31 w.heap.size Try.underlying45 Try.info31 ov _ h1 _ [r] row5.row (letc_one _ fun x hx => by simp at hx; subst hx; exact HFORM.out _ (List.mem_of_getElem? hr)) (by simp; omega) (by omega)
          refine ⟨v', w', hr', ?_, (bel.trans (bel5.mono sz)).grown hg (by omega) fun j hj => (h1.lt j hj).1⟩
          rw [but_next hr he]
          exact ho
        rw [hrv] at e2 hw5
        have he' : ¬ (k : Int) = (at' : Int) := by omega
        clear hcell hr q0 q1 q2 hrv row5 sz5
        go_wp2_with (at_builtin; refine wpList_append_at rfl (.tmp 19) (.tmp 27) 45 rfl _ (.slice (some ⟨wr.heap.size, 0, none⟩) 1 1) rfl rfl (X.out _ HT.out) ?_)
        intro v7 w7 own7 bel7
        have J := hide own7
        clear own7 X HT
        go_wp2
        go_roundw
        case rel => exact ⟨k + 1, by omega, by go_num, J, bel7⟩
        case measure => simp [intOf]; omega
    · have hkl : ¬ (k : Int) < rs.length := by omega
      have HT2 := HT.out
      rw [show k = rs.length by omega, but_eq] at HT2
      clear HT
      go_wp2
      go_ret
      exact ⟨_, rfl, HT2, bel⟩

end Go.Proofs.Ytadfbmglbaebiaa
