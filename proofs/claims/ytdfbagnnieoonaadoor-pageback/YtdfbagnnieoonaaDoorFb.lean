/- slices.Concat, frame.Append, frame.size. -/
import Derived.Test.YtdfbagnnieoonaaDoorFa
namespace Go.Proofs.YtdfbagnnieoonaaDoor
open Go.RowKit
set_option linter.unusedVariables false

/-- The bytes of a row's lists, one behind the other. -/
def flt : List Bw → List Int
  | [] => []
  | a :: r => a.l ++ flt r

theorem flt_app : ∀ r s : List Bw, flt (r ++ s) = flt r ++ flt s
  | [], s => rfl
  | a :: r, s => by simp [flt, flt_app r s]

theorem flt_next {r : List Bw} {k : Nat} {a : Bw} (h : r[k]? = some a) : flt (r.take (k + 1)) = flt (r.take k) ++ a.l := by
  obtain ⟨h1, h2⟩ := List.getElem?_eq_some_iff.1 h
  rw [List.take_succ_eq_append_getElem h1, flt_app, h2]
  simp [flt]

theorem flt_le (r : List Bw) (k : Nat) : (flt (r.take k)).length ≤ (flt r).length := by
  have : flt r = flt (r.take k) ++ flt (r.drop k) := by rw [← flt_app, List.take_append_drop]
  rw [this, List.length_append]
  omega

set_option maxHeartbeats 2000000 in
theorem concat_any (v : Value) (r : List Bw) (w : World) (h : IsBB w v r) (hr : r.length ≤ 1000) (hl : (flt r).length ≤ 150000000000000) :
    Calls Tryd.prog 39 #[v] w fun E w' => ∃ v', E = .returned v' ∧ Own .u8 5 w.heap.size w' v' (flt r) ∧ Below w.heap.size w w' := by
  obtain ⟨ao, cap, hv, hcap, hcm⟩ := h.1.shape
  have H := hide h
  subst hv
  clear h
  go_enter Tryd.func39, Tryd.ntmps39
  go_wp2
  go_loopw [3, 11] (fun sv iv wr => ∃ k : Nat, k ≤ r.length ∧ iv = .int .i64 k ∧ sv = .int .i64 (flt (r.take k)).length ∧ w = wr) (fun _ iv _ => r.length - (intOf iv).toNat)
  case atStart => exact ⟨0, by omega, rfl, rfl, rfl⟩
  case round =>
    obtain ⟨k, hk, rfl, rfl, rfl⟩ := hrel
    by_cases hlt : k < r.length
    · obtain ⟨b, off, cq, hvx, _, _, hB, hcell⟩ := H.out.full (by omega)
      simp only [Value.slice.injEq, true_and] at hvx
      obtain ⟨rfl, rfl⟩ := hvx
      obtain ⟨a, ha⟩ : ∃ a, r[k]? = some a := ⟨r[k], by rw [List.getElem?_eq_getElem]⟩
      have e4 := hcell k a ha
      obtain ⟨av, ac, hav, _, _⟩ := (H.out.2 a (List.mem_of_getElem? ha)).shape
      rw [hav] at e4
      have hlt' : (k : Int) < r.length := by omega
      have hn := flt_next ha
      have hm := flt_le r (k + 1)
      have hn2 : (flt (r.take (k + 1))).length = (flt (r.take k)).length + a.l.length := by rw [hn, List.length_append]
      have hn3 : ((flt (r.take (k + 1))).length : Int) = ((flt (r.take k)).length : Int) + (a.l.length : Int) := by omega
      generalize hq : (flt (r.take k)).length = q at *
      have e5 : IntKind.i64.wrap ((q : Int) + (a.l.length : Int)) = (q : Int) + a.l.length := wrap_i64_small _ (by omega) (by omega)
      have e6 : ¬ (q : Int) + (a.l.length : Int) < 0 := by omega
      have hk0 : (0 : Int) ≤ (k : Int) := by omega
      clear hcell hn hq hav ha
      go_wp2
      go_roundw
      case rel => exact ⟨k + 1, by omega, by go_num, by rw [hn3], trivial⟩
      case measure => simp [intOf]; omega
    · obtain rfl : k = r.length := by omega
      rw [List.take_length]
      have hlt' : ¬ (r.length : Int) < r.length := by omega
      go_wp2_with fail
      refine (grow_any (flt r).length _ hl).mono ?_
      rintro E w1 ⟨v1, rfl, own1, bel1⟩
      have H1 := hide (H.out.below bel1)
      go_wp2
      go_loopw [6, 27] (fun sv iv wr => ∃ k : Nat, k ≤ r.length ∧ iv = .int .i64 k ∧ Own .u8 5 w.heap.size wr sv (flt (r.take k)) ∧ Below w.heap.size w wr) (fun _ iv _ => r.length - (intOf iv).toNat)
      case atStart => exact ⟨0, by omega, rfl, own1, bel1⟩
      case round =>
        clear own1 bel1 H1
        obtain ⟨k, hk, rfl, own, bel⟩ := hrel
        have szr := bel.size
        by_cases hlt : k < r.length
        · have H2 := H.out.below bel
          obtain ⟨b, off, cq, hvx, _, _, hB, hcell⟩ := H2.full (by omega)
          simp only [Value.slice.injEq, true_and] at hvx
          obtain ⟨rfl, rfl⟩ := hvx
          obtain ⟨a, ha⟩ : ∃ a, r[k]? = some a := ⟨r[k], by rw [List.getElem?_eq_getElem]⟩
          have e4 := hcell k a ha
          have isa := H2.2 a (List.mem_of_getElem? ha)
          have hlt' : (k : Int) < r.length := by omega
          have hn := hide (flt_next ha)
          have hm := flt_le r (k + 1)
          have hn2 : (flt (r.take (k + 1))).length = (flt (r.take k)).length + a.l.length := by rw [hn.out, List.length_append]
          have hk0 : (0 : Int) ≤ (k : Int) := by omega
          have sum : (flt (r.take k)).length + a.l.length ≤ 150000000000000 := by omega
          clear hcell ha H2 hn2 hm
          generalize flt (r.take k) = q at *
          go_wp2_with (at_builtin; refine wpList_append_is rfl (.tmp 31) (.tmp 32) 31 rfl .u8 5 w.heap.size 1 Tryd.underlying31 Tryd.info5 (by decide) _ q rfl own _ a.l rfl isa (by simp; omega) szr ?_)
          intro v2 w2 own2 bel2 _
          rw [← hn.out] at own2
          have b3 := bel.trans bel2
          clear own isa e4 bel2
          go_wp2
          go_roundw
          case rel => exact ⟨k + 1, by omega, by go_num, own2, b3⟩
          case measure => simp [intOf]; omega
        · obtain rfl : k = r.length := by omega
          rw [List.take_length] at own
          have hlt' : ¬ (r.length : Int) < r.length := by omega
          go_wp2
          go_ret
          exact ⟨_, rfl, own, bel⟩

/-- What Append answers. -/
def apd (bs r : List Int) : List Int := if r.length ≤ 131072 then bs ++ Fm.frm r else []
def ape (r : List Int) : Int := if r.length ≤ 131072 then 0 else 3

theorem conv_len (n : Nat) (h : n ≤ 140737488355328) : IntKind.u64.wrap (n : Int) = n := by
  rw [IntKind.wrap_u64]; omega

set_option maxHeartbeats 2000000 in
theorem fapp_any (vb vr : Value) (bs r : List Int) (w : World) (hb : Is .u8 w vb bs) (hr : Is .u8 w vr r) (hl : bs.length ≤ 140737488351232) (hl' : r.length ≤ 140737488351232) :
    Calls Tryd.prog 25 #[vb, vr] w fun E w' => ∃ v', E = .returned (.tuple #[v', .int .i64 (ape r)]) ∧ Own .u8 5 w.heap.size w' v' (apd bs r) ∧ Below w.heap.size w w' := by
  obtain ⟨ro, rc, hv, hcap, hcm⟩ := hr.shape
  subst hv
  obtain ⟨bo, bc, hv, hcap', hcm'⟩ := hb.shape
  subst hv
  have HB := hide hb
  have HR := hide hr
  clear hb hr
  by_cases hlong : r.length ≤ 131072
  · have e1 : ape r = 0 := if_pos hlong
    have e2 : apd bs r = bs ++ Fm.frm r := if_pos hlong
    rw [e1, e2]
    have hn : ¬ (131072 : Int) < (r.length : Int) := by omega
    have e3 : IntKind.u64.wrap (r.length : Int) = r.length := conv_len _ (by omega)
    have hz := Fm.sz3 hlong
    clear e1 e2
    go_enter Tryd.func25, Tryd.ntmps25
    go_wp2_with fail
    refine (app_any (.slice none 0 0) [] (r.length : Int) _ (Own.nil .u8 5 w.heap.size w).is (by simp) (by omega) (by omega)).mono ?_
    rintro E w1 ⟨v1, rfl, own1, bel1⟩
    rw [List.nil_append, Int.toNat_natCast] at own1
    obtain ⟨no, nc, hv, _, _⟩ := own1.is.shape
    subst hv
    generalize hvn : Value.slice no (Vm.enc r.length).length nc = v1 at *
    generalize hvb : Value.slice bo bs.length bc = vb at *
    obtain ⟨w2, hw2, sz2, bel2, B2⟩ := blk_step w1 #[vb, v1, .slice ro r.length rc] 31
    have row : IsBB w2 (.slice (some ⟨w1.heap.size, 0, none⟩) 3 3) [⟨vb, bs⟩, ⟨v1, Vm.enc r.length⟩, ⟨.slice ro r.length rc, r⟩] := by
      refine ⟨?_, ?_⟩
      · obtain ⟨W, hW, _, _, ho⟩ := rows_step bwc 1 bwc_len 31 w1 #[vb, v1, .slice ro r.length rc] 3 [⟨vb, bs⟩, ⟨v1, Vm.enc r.length⟩, ⟨.slice ro r.length rc, r⟩] rfl rfl (by unfold maxLen; omega)
        rw [← hw2, hW]
        exact ho.row
      · intro a ha
        simp at ha
        rcases ha with rfl | rfl | rfl
        · exact (HB.out.below bel1).below bel2
        · exact (own1.below bel2).is
        · exact (HR.out.below bel1).below bel2
    have szs := bel1.size
    have HC := hide (concat_any _ _ w2 row (by simp) (by simp [flt]; have : (Vm.enc r.length).length ≤ 3 := hz; omega))
    have b02 : Below w.heap.size w w2 := bel1.trans (bel2.mono szs)
    clear own1 row bel1 bel2 B2
    subst hvn hvb
    go_wp2_with fail
    refine HC.out.mono ?_
    rintro E w3 ⟨v3, rfl, own3, bel3⟩
    have own4 : Own .u8 5 w2.heap.size w3 v3 (bs ++ Fm.frm r) := by simpa [flt, Fm.frm] using own3
    clear HC own3
    go_wp2
    go_ret2
    exact ⟨_, rfl, own4.rebase (by omega), b02.trans (bel3.mono (by omega))⟩
  · have e1 : ape r = 3 := if_neg hlong
    have e2 : apd bs r = [] := if_neg hlong
    rw [e1, e2]
    have hn : (131072 : Int) < (r.length : Int) := by omega
    go_enter Tryd.func25, Tryd.ntmps25
    go_wp2
    go_ret2
    exact ⟨_, rfl, Own.nil _ _ _ _, Below.refl _ _⟩

end Go.Proofs.YtdfbagnnieoonaaDoor
