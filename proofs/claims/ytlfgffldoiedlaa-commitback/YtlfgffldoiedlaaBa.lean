/- The contracts of batch's Check, Shared. -/
import Derived.Test.YtlfgffldoiedlaaBk
namespace Go.Proofs.Ytlfgffldoiedlaa
open Go.RowKit
set_option linter.unusedVariables false

theorem first_take {l : List Bm.Ov} {k : Nat} {o : Bm.Ov} (h : ∀ q ∈ l.take k, q.c = 0) (ho : l[k]? = some o) (hc : o.c = 0) : ∀ q ∈ l.take (k + 1), q.c = 0 := by
  obtain ⟨hk, rfl⟩ := List.getElem?_eq_some_iff.1 ho
  intro q hq
  rw [List.take_succ_eq_append_getElem hk] at hq
  rcases List.mem_append.1 hq with hq | hq
  · exact h q hq
  · rw [List.mem_singleton.1 hq]; exact hc

set_option maxHeartbeats 400000 in
theorem bcheck_any (vl : Value) (l : List Bm.Ov) (w : World) (h : IsO w vl l) (hf : FitO l) (hl : l.length ≤ 140737488355328) :
    Calls Try.prog 36 #[vl] w fun E w' => E = .returned (.int .i64 (Bm.chkL l)) ∧ Below w.heap.size w w' := by
  by_cases h0 : l.length = 0
  · have : l = [] := List.eq_nil_of_length_eq_zero h0
    subst this
    obtain ⟨ao, cap, rfl⟩ := h.bare
    clear h hf hl h0
    go_enter Try.func36, Try.ntmps36
    go_wp2
    go_ret
    exact ⟨rfl, Below.refl _ _⟩
  · by_cases h8 : 8 < l.length
    · obtain ⟨ao, cap, rfl, _, _⟩ := h.shape
      rw [Bm.chkL_long h8]
      clear h hf
      have e0 : ((l.length : Int) == 0) = false := by rw [beq_eq_false_iff_ne]; omega
      have e8 : (8 : Int) < l.length := by omega
      go_enter Try.func36, Try.ntmps36
      go_wp2
      go_ret
      exact ⟨rfl, Below.refl _ _⟩
    · obtain ⟨b1, o1, c1, rfl, _, _, hB, hcell⟩ := h.full (by omega)
      rw [Bm.chkL_mid h0 h8]
      have e0 : ((l.length : Int) == 0) = false := by rw [beq_eq_false_iff_ne]; omega
      have e8 : ¬ (8 : Int) < l.length := by omega
      clear h
      generalize hn : l.length = n at *
      have HN := hide hn
      have HC := hide hcell
      have HF := hide hf
      clear hn hcell hf
      go_enter Try.func36, Try.ntmps36
      go_wp2
      go_loopw [14] (fun i wr => ∃ (k : Nat), k ≤ n ∧ i = .int .i64 k ∧ Hid (∀ q ∈ l.take k, q.c = 0) ∧ Below w.heap.size w wr) (fun i _ => n - (intOf i).toNat)
      case atStart => exact ⟨0, by omega, rfl, hide (by simp), Below.refl _ _⟩
      case round =>
        obtain ⟨k, hk, rfl, HT, bel⟩ := hrel
        by_cases hlt : k < n
        · obtain ⟨o, ho⟩ : ∃ o, l[k]? = some o := ⟨l[k]'(by have := HN.out; omega), by rw [List.getElem?_eq_getElem]⟩
          obtain ⟨c0, c1, c2⟩ := HC.out k o ho
          have sz := bel.size
          have d0 := (bel.cell (p := ⟨b1, o1 + k * 3, none⟩) hB).trans c0
          have d1 := (bel.cell (p := ⟨b1, o1 + k * 3 + 1, none⟩) hB).trans c1
          have d2 := (bel.cell (p := ⟨b1, o1 + k * 3 + 2, none⟩) hB).trans c2
          have HO := hide ho
          clear c0 c1 c2 ho
          have hlt' : (k : Int) < n := by omega
          obtain ⟨hk1, hv1⟩ := HF.out o (List.mem_of_getElem? HO.out)
          go_wp2_with fail
          refine (check_any o.p o.k o.v _ hk1 hv1).mono ?_
          rintro E w1 ⟨rfl, bel1⟩
          have bel0 : Below wr.heap.size wr (wr.alloc (.cells #[.bool o.p, .string o.k, .string o.v] 58)) := (Below.refl _ _).alloc (Nat.le_refl _) _
          have bel2 : Below w.heap.size w w1 := (bel.trans (bel0.mono sz)).trans (bel1.mono (by simp; omega))
          clear bel0 bel1 d0 d1 d2
          rcases (show Om.chk o.p o.k.data.toList o.v.data.toList = 0 ∨ _ from Om.chk_two _ _ _) with hc | hc
          · rw [hc]
            have HT2 := hide (first_take HT.out HO.out hc)
            clear hc
            go_wp2
            go_roundw
            case rel => exact ⟨k + 1, by omega, by go_num, HT2, bel2⟩
            case measure => simp [intOf]; omega
          · rw [hc]
            have HB := hide (Bm.first_bad (List.mem_of_getElem? HO.out) (show Bm.Ov.c o ≠ 0 by unfold Bm.Ov.c Bm.Ov.kl Bm.Ov.vl; rw [hc]; simp))
            clear hc
            go_wp2
            go_ret
            exact ⟨ret_i64 HB.out.symm, bel2⟩
        · have hkn : k = n := by omega
          have HB : Hid (Bm.first l = 0) := hide (Bm.first_all (fun q hq => HT.out q (by rw [List.take_of_length_le (by have := HN.out; omega)]; exact hq)))
          have hlt' : ¬ (k : Int) < n := by omega
          go_wp2
          go_ret
          exact ⟨ret_i64 HB.out.symm, bel⟩

set_option maxHeartbeats 400000 in
theorem shared_quiet (a b : ByteArray) (w : World) (ha : a.size ≤ 140737488355328) (hb : b.size ≤ 140737488355328) :
    Calls Try.prog 73 #[.string a, .string b] w fun E w' => E = .returned (.int .i64 (Bm.com a.data.toList b.data.toList)) ∧ ∃ m, w' = w.drewN m := by
  have la : a.data.toList.length = a.size := (Lib.size_eq a).symm
  have lb : b.data.toList.length = b.size := (Lib.size_eq b).symm
  go_enter Try.func73, Try.ntmps73
  go_wp2
  all_goals
    go_loopw [13] (fun i wr => ∃ (k : Nat), k ≤ a.size ∧ k ≤ b.size ∧ i = .int .i64 k ∧ Hid (a.data.toList.take k = b.data.toList.take k) ∧ ∃ m, wr = w.drewN m) (fun i _ => a.size + b.size - (intOf i).toNat)
    case atStart => exact ⟨0, by omega, by omega, rfl, hide rfl, 0, rfl⟩
    case round =>
      obtain ⟨k, hka, hkb, rfl, HT, m, rfl⟩ := hrel
      by_cases hA : k < a.size
      · by_cases hB : k < b.size
        · have hA' : (k : Int) < a.size := by omega
          have hB' : (k : Int) < b.size := by omega
          obtain ⟨c, hc⟩ : ∃ c : UInt8, a[k] = c := ⟨_, rfl⟩
          obtain ⟨d, hd⟩ : ∃ c : UInt8, b[k] = c := ⟨_, rfl⟩
          have ea : a.data.toList[k]? = some c := by rw [List.getElem?_eq_getElem (by omega), ← hc]; rfl
          have eb : b.data.toList[k]? = some d := by rw [List.getElem?_eq_getElem (by omega), ← hd]; rfl
          have EA := hide ea
          have EB := hide eb
          clear ea eb
          by_cases hcd : c = d
          · have ht : ((c.toNat : Int) != (d.toNat : Int)) = false := by simp [hcd]
            have HK : Hid (a.data.toList.take (k + 1) = b.data.toList.take (k + 1)) := hide (by
              have h1 := EA.out
              have h2 := EB.out
              rw [List.take_add_one, List.take_add_one, HT.out, h1, h2, hcd])
            clear hcd
            go_wp2
            go_quiet (fail)
            go_wp2
            go_roundw
            case rel => exact ⟨k + 1, by omega, by omega, by go_num, HK, _, rfl⟩
            case measure => simp [intOf]; omega
          · have ht : ((c.toNat : Int) != (d.toNat : Int)) = true := by
              have : c.toNat ≠ d.toNat := fun h => hcd (UInt8.toNat_inj.1 h)
              simp; omega
            have HK : Hid (Bm.com a.data.toList b.data.toList = k) := hide (Bm.com_is _ _ k (by omega) (by omega) HT.out (.inr (.inr (by rw [EA.out, EB.out]; simpa using hcd))))
            clear hcd
            go_wp2
            go_quiet (fail)
            go_wp2
            go_ret
            exact ⟨ret_i64 (by rw [HK.out]), _, World.drewN_drewN _ _ _⟩
        · have hB' : ¬ (k : Int) < b.size := by omega
          have HK : Hid (Bm.com a.data.toList b.data.toList = k) := hide (Bm.com_is _ _ k (by omega) (by omega) HT.out (.inr (.inl (by omega))))
          have hkk : k = b.size := by omega
          have h' : ¬ a.size ≤ k := by omega
          try (exfalso; omega)
          try (
            go_wp2
            go_ret
            exact ⟨ret_i64 (by rw [HK.out]; omega), m, rfl⟩)
      · have hA' : ¬ (k : Int) < a.size := by omega
        have HK : Hid (Bm.com a.data.toList b.data.toList = k) := hide (Bm.com_is _ _ k (by omega) (by omega) HT.out (.inl (by omega)))
        have hkk : k = a.size := by omega
        have hB' : b.size < a.size ∨ ¬ b.size < a.size := by omega
        try (exfalso; omega)
        try (
          go_wp2
          go_ret
          exact ⟨ret_i64 (by rw [HK.out]; omega), m, rfl⟩)

theorem shared_any (a b : ByteArray) (w : World) (ha : a.size ≤ 140737488355328) (hb : b.size ≤ 140737488355328) :
    Calls Try.prog 73 #[.string a, .string b] w fun E w' => E = .returned (.int .i64 (Bm.com a.data.toList b.data.toList)) ∧ Below w.heap.size w w' :=
  (shared_quiet a b w ha hb).mono (by rintro E w' ⟨rfl, m, rfl⟩; exact ⟨rfl, below_drewN (Below.refl _ _) m⟩)

end Go.Proofs.Ytlfgffldoiedlaa
