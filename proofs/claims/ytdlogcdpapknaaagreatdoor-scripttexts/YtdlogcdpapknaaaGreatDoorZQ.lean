/- Texts of one layer, one behind the other. -/
import Derived.Test.YtdlogcdpapknaaaGreatDoorZE
import Derived.Test.YtdlogcdpapknaaaGreatDoorZJ
import Derived.Test.YtdlogcdpapknaaaGreatDoorZC
import Derived.Test.YtdlogcdpapknaaaGreatDoorTxt
/- The contract of the document's Check. -/
namespace Go.Proofs.YtdlogcdpapknaaaGreatDoor
open Go.RowKit
set_option linter.unusedVariables false

set_option maxHeartbeats 400000 in
theorem checkR_any (p : Bool) (k v : ByteArray) (w : World) (hk : k.size ≤ 140737488351232) (hv : v.size ≤ 140737488351232) :
    Calls Tryz.prog 46 #[opv p k v] w fun E w' => E = .returned (.int .i64 (Om.chk p k.data.toList v.data.toList)) ∧ Below w.heap.size w w' := by
  unfold opv
  obtain ⟨c, hc⟩ : ∃ c, Om.chk p k.data.toList v.data.toList = c := ⟨_, rfl⟩
  rw [hc]
  have HC := hide hc
  clear hc
  cases p
  all_goals go_enter Tryz.func46, Tryz.ntmps46
  all_goals go_wp2
  all_goals go_ret
  all_goals refine ⟨ret_i64 ?_, (Below.refl _ _).alloc (Nat.le_refl _) _⟩
  all_goals rw [← HC.out, chk_size]
  all_goals clear HC
  all_goals generalize v.toList.isEmpty = q at *
  all_goals (cases q <;> simp_all <;> omega)

end Go.Proofs.YtdlogcdpapknaaaGreatDoor

/- The contracts of the document's hex, plain, Word. -/
namespace Go.Proofs.YtdlogcdpapknaaaGreatDoor
open Go.RowKit
set_option linter.unusedVariables false
set_option maxRecDepth 100000

set_option maxHeartbeats 400000 in
theorem plainR_any (z : Int) (c : UInt8) (w : World) (hz : z = (c.toNat : Int)) :
    Calls Tryz.prog 96 #[.int .u8 z] w fun E w' => E = .returned (.bool (Wm.plain c)) ∧ w = w' := by
  rw [plain_int z c hz]
  obtain ⟨r, hr⟩ : ∃ r, (decide (33 ≤ z) && decide (z ≤ 126) && (z != 34) && (z != 92)) = r := ⟨_, rfl⟩
  rw [hr]
  have HR := hide hr
  clear hr hz
  by_cases h1 : 33 ≤ z <;> by_cases h2 : z ≤ 126 <;> by_cases h3 : z = 34 <;> by_cases h4 : z = 92
  all_goals
    try (exfalso; omega)
  all_goals
    go_enter Tryz.func96, Tryz.ntmps96
    go_wp2
    all_goals go_ret
    all_goals exact ⟨ret_bool (by rw [← HR.out, Bool.eq_iff_iff]; simp <;> omega), rfl⟩

set_option maxHeartbeats 400000 in
theorem hexR_any (z : Int) (n : Nat) (w : World) (hn : n < 16) (hz : z = (n : Int)) :
    Calls Tryz.prog 97 #[.int .u8 z] w fun E w' => E = .returned (.int .u8 (Wm.hexd n).toNat) ∧ w = w' := by
  subst hz
  have n2 : (n : Int) < 16 := by omega
  go_enter Tryz.func97, Tryz.ntmps97
  go_wp2
  go_ret
  refine ⟨?_, rfl⟩
  rw [← hexs n hn (by simp [ByteArray.size]; omega)]
  rfl

theorem Tryz.enters97 : ∀ args w, (callFunc 97 args).run Tryz.prog w = .ok (.enter 97 args) w := enters_of Tryz.func97 (by kernel_rfl) rfl

/-- A call of a Go function inside a region that draws its order. -/
theorem step_call {P : Program} {ops : Array Oper} {o : Oper} {a : Act} {w : World} {K : Act → World → Prop} {Q : Exit → Act → World → Prop} {E : Prop} (hgd : o.guard = none) (f : FuncId) (args : Array Operand) (ts : Array TypeId)
    (ho : o.op = .call { callee := .value (.func f), args := args, argTypes := ts }) (hent : ∀ args w, (callFunc f args).run P w = .ok (.enter f args) w) (vs : Array Value) (hvs : args.map a.eval = vs)
    {R : Value → World → Prop} (hc : Calls P f vs w fun e w' => ∃ v, e = .returned v ∧ R v w') (h : ∀ v w', R v w' → K (a.put o.dst v) w') :
    if Region.wanted o (yielded ops a.tmps) = true then Oper.wp P o a w K Q else E := by
  have hw : Region.wanted o (yielded ops a.tmps) = true := by simp [Region.wanted, hgd]
  rw [if_pos hw]
  unfold Oper.wp
  simp only [execOp, ho, resolve, invoke, Sem.run_bind, hvs]
  simp only [Act.eval, Deferred.ofValue, Sem.run_pure, Result.andThen_ok, Array.empty_append, hent]
  rw [Oper.upon_enter]
  refine hc.mono ?_
  rintro e w' ⟨v, rfl, hr⟩
  exact h v w' hr

set_option maxHeartbeats 1000000 in
theorem wordR_any (s : ByteArray) (w : World) (hs : s.size ≤ 35184372088832) :
    Calls Tryz.prog 80 #[.string s] w fun E w' => E = .returned (.string ⟨(Wm.wd s.data.toList).toArray⟩) ∧ Below w.heap.size w w' := by
  by_cases h0 : s.data.toList = []
  · have he : s.toList.isEmpty = true := by rw [Lib.toList_data, h0]; rfl
    rw [h0, Wm.wd_nil]
    obtain ⟨w1, hw1, sz1, bel1, own1⟩ := own_step .u8 5 w #[.int .u8 34, .int .u8 34] 2 [34, 34] rfl rfl (by simp [maxLen]) (bytes_wf (by decide))
    have hconv := own1.is.conv Tryz.underlying60 Tryz.underlying5 Tryz.underlying9
    clear h0
    go_enter Tryz.func80, Tryz.ntmps80
    go_wp2
    go_ret
    exact ⟨rfl, bel1⟩
  · have he : s.toList.isEmpty = false := by rw [Lib.toList_data]; simpa using h0
    have hl : s.data.toList.length = s.size := (Lib.size_eq s).symm
    rw [Wm.wd_full h0]
    go_enter Tryz.func80, Tryz.ntmps80
    go_wp2
    go_loopw [3, 4] (fun vv ii wr => ∃ k : Nat, k ≤ s.size ∧ ii = .int .i64 k ∧ Own .u8 5 w.heap.size wr vv (Om.ints (Wm.flat (s.data.toList.take k))) ∧ Below w.heap.size w wr) (fun _ ii _ => s.size - (intOf ii).toNat)
    case atStart => exact ⟨0, by omega, rfl, by simpa [Wm.flat, Om.ints] using Own.nil .u8 5 w.heap.size w, Below.refl _ _⟩
    case round =>
      obtain ⟨k, hk, rfl, own, bel⟩ := hrel
      have sz := bel.size
      by_cases hlt : k < s.size
      · have hlt' : (k : Int) < s.size := by omega
        obtain ⟨c, hc⟩ : ∃ c : UInt8, s[k] = c := ⟨_, rfl⟩
        have htk : s.data.toList.take (k + 1) = s.data.toList.take k ++ [c] := by
          rw [List.take_succ_eq_append_getElem (by omega), ← hc]
          rfl
        have hfl : Wm.flat (s.data.toList.take (k + 1)) = Wm.flat (s.data.toList.take k) ++ Wm.esc c := by rw [htk, Wm.flat_snoc]
        have hlen : (Wm.flat (s.data.toList.take k)).length ≤ 105553116266496 := by
          have := Wm.flat_le (s.data.toList.take k)
          rw [List.length_take] at this
          omega
        have hc256 := c.toNat_lt
        generalize Wm.flat (s.data.toList.take k) = acc at *
        have HFL := hide hfl
        have hil := Om.ints_len acc
        generalize hia : Om.ints acc = ia at *
        have HIA := hide hia
        clear htk hfl hia
        go_wp2_with fail
        refine (plainR_any _ c _ rfl).mono ?_
        rintro E w1 ⟨rfl, rfl⟩
        cases hp : Wm.plain c
        · rw [Wm.esc_other hp] at HFL
          clear hp
          have n1 : (0 : Int) ≤ (c.toNat : Int) / 16 := by omega
          have n2 : (c.toNat : Int) / 16 < 16 := by omega
          have n3 : (0 : Int) ≤ (c.toNat : Int) % 16 := by omega
          have n4 : (c.toNat : Int) % 16 < 16 := by omega
          have h1w := (Wm.hexd (c.toNat / 16)).toNat_lt
          have h2w := (Wm.hexd (c.toNat % 16)).toNat_lt
          obtain ⟨w4, hw4, sz4, bel4, own4⟩ := own_step .u8 5 wr #[.int .u8 92, .int .u8 (Wm.hexd (c.toNat / 16)).toNat, .int .u8 (Wm.hexd (c.toNat % 16)).toNat] 3 [92, ((Wm.hexd (c.toNat / 16)).toNat : Int), ((Wm.hexd (c.toNat % 16)).toNat : Int)] rfl rfl (by simp [maxLen]) (by
            intro z hz
            simp at hz
            rcases hz with rfl | rfl | rfl
            · exact wf_u8 (by omega) (by omega)
            · exact wf_u8 (by omega) (by omega)
            · exact wf_u8 (by omega) (by omega))
          have x1 : ∀ w', Calls Tryz.prog 97 #[.int .u8 ((c.toNat : Int) / 16)] w' fun e w'' => ∃ v, e = .returned v ∧ v = .int .u8 (Wm.hexd (c.toNat / 16)).toNat ∧ w' = w'' := fun w' => (hexR_any _ (c.toNat / 16) w' (by omega) (by omega)).mono (by rintro e w'' ⟨rfl, rfl⟩; exact ⟨_, rfl, rfl, rfl⟩)
          have x2 : ∀ w', Calls Tryz.prog 97 #[.int .u8 ((c.toNat : Int) % 16)] w' fun e w'' => ∃ v, e = .returned v ∧ v = .int .u8 (Wm.hexd (c.toNat % 16)).toNat ∧ w' = w'' := fun w' => (hexR_any _ (c.toNat % 16) w' (by omega) (by omega)).mono (by rintro e w'' ⟨rfl, rfl⟩; exact ⟨_, rfl, rfl, rfl⟩)
          have wq : IntKind.u8.wrap ((c.toNat : Int) / 16) = (c.toNat : Int) / 16 := by rw [IntKind.wrap_u8]; omega
          have tm : (c.toNat : Int).tmod 16 = (c.toNat : Int) % 16 := Int.tmod_eq_emod_of_nonneg (by omega)
          have X1 := hide x1
          have X2 := hide x2
          have i1 := fun m => (own.below bel4).drewN m
          have i2 := fun m => own4.is.drewN m
          clear x1 x2
          go_wp2_with fail
          go_region_law (first
            | (refine step_call rfl 97 #[.tmp 29] #[5] rfl Tryz.enters97 #[.int .u8 ((c.toNat : Int) / 16)] (by simp [Act.eval, Act.put]) (X1.out _) ?_; rintro vv ww ⟨rfl, rfl⟩)
            | (refine step_call rfl 97 #[.tmp 34] #[5] rfl Tryz.enters97 #[.int .u8 ((c.toNat : Int) % 16)] (by simp [Act.eval, Act.put]) (X2.out _) ?_; rintro vv ww ⟨rfl, rfl⟩)
            | (refine step_append_is rfl (.tmp 25) (.tmp 36) 60 rfl .u8 5 w.heap.size 1 Tryz.underlying60 Tryz.info5 (by decide) _ ia (by simp [Act.eval]) (i1 1) _ [92, ((Wm.hexd (c.toNat / 16)).toNat : Int), ((Wm.hexd (c.toNat % 16)).toNat : Int)] (by simp [Act.eval]) (i2 1) (by simp; omega) (by simp; omega) ?_; intro v5 w5 own5 bel5 _))
          all_goals
            have e5 : ia ++ [92, ((Wm.hexd (c.toNat / 16)).toNat : Int), ((Wm.hexd (c.toNat % 16)).toNat : Int)] = Om.ints (Wm.flat (s.data.toList.take (k + 1))) := by rw [HFL.out, ← HIA.out, Om.ints_append]; rfl
            rw [e5] at own5
            have bel6 : Below w.heap.size w w5 := (bel.trans (bel4.mono (by omega))).trans (((Below.refl _ _).drew).trans bel5)
            clear e5 own4 own i1 i2 wq tm
            go_wp2
            go_roundw
            case rel => exact ⟨k + 1, by omega, by go_num, own5, bel6⟩
            case measure => simp [intOf]; omega
        · rw [Wm.esc_plain hp] at HFL
          clear hp
          obtain ⟨w4, hw4, sz4, bel4, own4⟩ := own_step .u8 5 wr #[.int .u8 c.toNat] 1 [(c.toNat : Int)] rfl rfl (by simp [maxLen]) (by simp; exact wf_u8 (by omega) (by omega))
          go_wp2_with (at_builtin; refine wpList_append_is rfl (.tmp 19) (.tmp 23) 60 rfl .u8 5 w.heap.size 1 Tryz.underlying60 Tryz.info5 (by decide) _ ia rfl (own.below bel4) _ [(c.toNat : Int)] rfl own4.is (by simp; omega) (by omega) ?_)
          intro v5 w5 own5 bel5 _
          have e5 : ia ++ [(c.toNat : Int)] = Om.ints (Wm.flat (s.data.toList.take (k + 1))) := by rw [HFL.out, ← HIA.out, Om.ints_append]; rfl
          rw [e5] at own5
          have bel6 : Below w.heap.size w w5 := (bel.trans (bel4.mono (by omega))).trans bel5
          clear e5 own4 own
          go_wp2
          go_roundw
          case rel => exact ⟨k + 1, by omega, by go_num, own5, bel6⟩
          case measure => simp [intOf]; omega
      · have hke : k = s.size := by omega
        have e1 : s.data.toList.take k = s.data.toList := List.take_of_length_le (by omega)
        rw [e1] at own
        have hconv := own.is.conv Tryz.underlying60 Tryz.underlying5 Tryz.underlying9
        rw [Om.byts_ints] at hconv
        clear own
        go_wp2
        go_ret
        exact ⟨rfl, bel⟩

end Go.Proofs.YtdlogcdpapknaaaGreatDoor

/- The contract of the document's Text. -/
namespace Go.Proofs.YtdlogcdpapknaaaGreatDoor
open Go.RowKit
set_option linter.unusedVariables false

set_option maxHeartbeats 1000000 in
theorem textR_any (p : Bool) (k v : ByteArray) (w : World) (hk : k.size ≤ 140737488351232) (hv : v.size ≤ 140737488351232) :
    Calls Tryz.prog 81 #[opv p k v] w fun E w' => ∃ t : ByteArray, E = .returned (.tuple #[.string t, .int .i64 (Om.chk p k.data.toList v.data.toList)]) ∧ t.data.toList = txd p k.data.toList v.data.toList ∧ Below w.heap.size w w' := by
  obtain ⟨w0, hw0, sz0, bel0, blk0⟩ := blk_step w #[.bool p, .string k, .string v] 77
  have d0 : w0.cell? ⟨w.heap.size, 0, none⟩ = some (.bool p) := blk_cell blk0 0 rfl
  have d1 : w0.cell? ⟨w.heap.size, 1, none⟩ = some (.string k) := blk_cell blk0 1 rfl
  have d2 : w0.cell? ⟨w.heap.size, 2, none⟩ = some (.string v) := blk_cell blk0 2 rfl
  unfold opv
  rcases Om.chk_two p k.data.toList v.data.toList with hc | hc
  · have hh := Om.chk_ok' hc
    rw [← Lib.size_eq, ← Lib.size_eq] at hh
    have hk16 := hh.2.1
    have hv32 := hh.2.2.1
    have hwk := wd_short k (by omega)
    have hwv := wd_short v (by omega)
    have hk1 : k.size ≤ 35184372088832 := by omega
    have hv1 : v.size ≤ 35184372088832 := by omega
    rw [txd_ok hc, hc]
    have HC := hide hc
    clear hc hh
    obtain ⟨zk, hzk⟩ : ∃ z : ByteArray, (⟨(Wm.wd k.data.toList).toArray⟩ : ByteArray) = z := ⟨_, rfl⟩
    obtain ⟨zv, hzv⟩ : ∃ z : ByteArray, (⟨(Wm.wd v.data.toList).toArray⟩ : ByteArray) = z := ⟨_, rfl⟩
    rw [hzk] at hwk
    rw [hzv] at hwv
    have xk : ∀ w', Calls Tryz.prog 80 #[.string k] w' fun E w'' => E = .returned (.string zk) ∧ Below w'.heap.size w' w'' := fun w' => by rw [← hzk]; exact wordR_any k w' hk1
    have xv : ∀ w', Calls Tryz.prog 80 #[.string v] w' fun E w'' => E = .returned (.string zv) ∧ Below w'.heap.size w' w'' := fun w' => by rw [← hzv]; exact wordR_any v w' hv1
    have HZK := hide hzk
    have HZV := hide hzv
    have XK := hide xk
    have XV := hide xv
    clear hzk hzv xk xv
    cases p
    · go_enter Tryz.func81, Tryz.ntmps81
      go_wp2_with fail
      refine (checkR_any false k v _ hk hv).mono ?_
      rintro E w1 ⟨rfl, bel1⟩
      rw [HC.out]
      have sz1 := bel1.size
      have blk1 := (bel1.block w.heap.size (by omega)).trans blk0
      have c0 : w1.cell? ⟨w.heap.size, 0, none⟩ = some (.bool false) := blk_cell blk1 0 rfl
      have c1 : w1.cell? ⟨w.heap.size, 1, none⟩ = some (.string k) := blk_cell blk1 1 rfl
      have belA : Below w.heap.size w w1 := bel0.trans (bel1.mono (by omega))
      clear hw0 blk0 blk1 d0 d1 d2
      go_wp2_with fail
      refine (XK.out _).mono ?_
      rintro E w2 ⟨rfl, bel2⟩
      go_wp2
      go_ret2
      refine ⟨_, rfl, ?_, belA.trans (bel2.mono belA.size)⟩
      rw [← HZK.out]
      simp [txt]
    · go_enter Tryz.func81, Tryz.ntmps81
      go_wp2_with fail
      refine (checkR_any true k v _ hk hv).mono ?_
      rintro E w1 ⟨rfl, bel1⟩
      rw [HC.out]
      have sz1 := bel1.size
      have blk1 := (bel1.block w.heap.size (by omega)).trans blk0
      have c0 : w1.cell? ⟨w.heap.size, 0, none⟩ = some (.bool true) := blk_cell blk1 0 rfl
      have c1 : w1.cell? ⟨w.heap.size, 1, none⟩ = some (.string k) := blk_cell blk1 1 rfl
      have c2 : w1.cell? ⟨w.heap.size, 2, none⟩ = some (.string v) := blk_cell blk1 2 rfl
      have belA : Below w.heap.size w w1 := bel0.trans (bel1.mono (by omega))
      have hlt1 : w.heap.size < w1.heap.size := by omega
      clear hw0 blk0 blk1 d0 d1 d2
      go_wp2_with fail
      go_region_with ((first
        | (go_at_call_of 80 (Value.string k); refine (XK.out _).mono ?_; rintro E wk ⟨rfl, belk'⟩; have belk : Below w1.heap.size w1 wk := (by first | exact ((Below.refl _ _).drew).trans belk' | exact belv.trans (belk'.mono belv.size)); have c1k := (belk.cell (p := ⟨w.heap.size, 1, none⟩) hlt1).trans c1; have c2k := (belk.cell (p := ⟨w.heap.size, 2, none⟩) hlt1).trans c2; clear belk')
        | (go_at_call_of 80 (Value.string v); refine (XV.out _).mono ?_; rintro E wv ⟨rfl, belv'⟩; have belv : Below w1.heap.size w1 wv := (by first | exact ((Below.refl _ _).drew).trans belv' | exact belk.trans (belv'.mono belk.size)); have c1v := (belv.cell (p := ⟨w.heap.size, 1, none⟩) hlt1).trans c1; have c2v := (belv.cell (p := ⟨w.heap.size, 2, none⟩) hlt1).trans c2; clear belv')))
      all_goals
        go_wp2
        go_ret2
        refine ⟨_, rfl, ?_, belA.trans (by first | exact belk.mono belA.size | exact belv.mono belA.size)⟩
        rw [← HZK.out, ← HZV.out]
        simp [txt]
  · rw [txd_no hc, hc]
    have HC := hide hc
    clear hc
    go_enter Tryz.func81, Tryz.ntmps81
    go_wp2_with fail
    refine (checkR_any p k v _ hk hv).mono ?_
    rintro E w1 ⟨rfl, bel1⟩
    rw [HC.out]
    go_wp2
    go_ret2
    exact ⟨⟨#[]⟩, rfl, rfl, bel0.trans (bel1.mono bel0.size)⟩

end Go.Proofs.YtdlogcdpapknaaaGreatDoor
