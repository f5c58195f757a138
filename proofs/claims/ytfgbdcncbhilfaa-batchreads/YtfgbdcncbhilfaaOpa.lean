/- The contracts of op's Check, size. -/
import Derived.Test.YtfgbdcncbhilfaaVarint
import Derived.Test.YtfgbdcncbhilfaaOpm
import Derived.Lib.Strings
import Derived.Lib.AppendStr
import Derived.Lib.UnsafeStr
namespace Go.Proofs.Ytfgbdcncbhilfaa
open Go.RowKit
set_option linter.unusedVariables false

/-- An op as a value. -/
def opv (p : Bool) (k v : ByteArray) : Value := .agg #[.bool p, .string k, .string v]

theorem chk_size (p : Bool) (k v : ByteArray) : Om.chk p k.data.toList v.data.toList = if 1 ≤ k.size ∧ k.size ≤ 16 ∧ v.size ≤ 32 ∧ (p = true ∨ v.toList.isEmpty = true) then 0 else 2 := by
  unfold Om.chk
  simp only [Lib.toList_data, List.isEmpty_iff, Lib.size_eq]

set_option maxHeartbeats 400000 in
theorem check_any (p : Bool) (k v : ByteArray) (w : World) (hk : k.size ≤ 140737488351232) (hv : v.size ≤ 140737488351232) :
    Calls Try.prog 34 #[opv p k v] w fun E w' => E = .returned (.int .i64 (Om.chk p k.data.toList v.data.toList)) ∧ Below w.heap.size w w' := by
  unfold opv
  obtain ⟨c, hc⟩ : ∃ c, Om.chk p k.data.toList v.data.toList = c := ⟨_, rfl⟩
  rw [hc]
  have HC := hide hc
  clear hc
  go_enter Try.func34, Try.ntmps34
  go_wp2
  all_goals go_ret
  all_goals refine ⟨ret_i64 ?_, (Below.refl _ _).alloc (Nat.le_refl _) _⟩
  all_goals rw [← HC.out, chk_size]
  all_goals clear HC
  all_goals (cases p <;> simp_all <;> first | omega | (intros; omega))

section
variable {P : Program} {w : World} {ops : Array Oper} {rest : List Oper} {o : Oper} {a : Act} {Q : Exit → Act → World → Prop}

/-- 'out = append(out, s...)', s a string. -/
theorem wpList_append_str (hgd : o.guard = none) (sl x : Operand) (t u : TypeId)
    (ho : o.op = .call { callee := .builtin .append, args := #[sl, x], argTypes := #[t, u] })
    (e : TypeId) (base : Nat) (ht : P.underlying t = some (.slice e)) (hu : P.underlying u = some .string) (hinfo : (P.info? e).map (fun i => (i.zero, i.size, i.bytes)) = some (some (.int .u8 0), 1, 1))
    (v : Value) (zs : List Int) (hs : a.eval sl = v) (hown : Own .u8 e base w v zs) (s : ByteArray) (hx : a.eval x = .string s)
    (hlen : zs.length + s.size ≤ 140737488355328) (hbase : base ≤ w.heap.size)
    (h : ∀ v' w', Own .u8 e base w' v' (zs ++ Om.ints s.data.toList) → Below base w w' → wpList P ops Q rest (a.put o.dst v') w') : wpList P ops Q (o :: rest) a w := by
  obtain ⟨i, hi, hz, hsize, hb⟩ := info_parts hinfo
  refine Lib.wpList_append_own_string w hgd sl x t u ho base e i ht hu hi hz hsize hb v zs.length _ hs hown.2 s hx (by unfold maxLen; omega) hlen hbase fun v' w' h1 h2 _ => ?_
  refine h v' w' ⟨?_, ?_⟩ ((Below.refl _ _).grown h2 hbase fun k' hk => (hown.2.lt k' hk).1)
  · intro z hz
    rcases List.mem_append.1 hz with hz | hz
    · exact hown.1 z hz
    · unfold Om.ints at hz
      obtain ⟨c, _, rfl⟩ := List.mem_map.1 hz
      have := c.toNat_lt
      exact wf_u8 (by omega) (by omega)
  · have e1 : zs.length + s.size = (zs ++ Om.ints s.data.toList).length := by rw [List.length_append, Om.ints_len, Lib.size_eq]
    rw [e1] at h1
    simpa [Lib.strCells_eq, Lib.byteCells, Om.ints, List.map_append, Function.comp_def] using h1
end

set_option maxHeartbeats 400000 in
theorem csize_any (s : ByteArray) (w : World) (hs : s.size ≤ 140737488351232) :
    Calls Try.prog 55 #[.string s] w fun E w' => E = .returned (.int .i64 (Om.cnt s.data.toList).length) ∧ w = w' := by
  have h10 := Vm.sz_le10 (x := s.size) (by omega)
  have e1 : ((Om.cnt s.data.toList).length : Int) = Vm.sz s.size + s.size := by rw [Om.cnt_len, ← Lib.size_eq]; omega
  rw [e1]
  clear e1
  generalize hm : Vm.sz s.size = m at *
  have HM := hide hm
  clear hm
  go_enter Try.func55, Try.ntmps55
  go_wp2_with fail
  refine (size_any _ _ (by omega) (by omega)).mono ?_
  rintro E w1 ⟨rfl, rfl⟩
  rw [Int.toNat_natCast, HM.out]
  go_wp2
  go_ret
  exact ⟨rfl, rfl⟩

theorem csize_q (s : ByteArray) (w : World) (hs : s.size ≤ 140737488351232) :
    Calls Try.prog 55 #[.string s] w fun E w' => E = .returned (.int .i64 (Om.cnt s.data.toList).length) ∧ ∃ m, w' = w.drewN m := by
  refine (csize_any s w hs).mono ?_
  rintro E w1 ⟨rfl, rfl⟩
  exact ⟨rfl, 0, rfl⟩

set_option maxHeartbeats 400000 in
theorem appc_any (base : Nat) (v : Value) (zs : List Int) (s : ByteArray) (w : World) (hv : Own .u8 5 base w v zs) (hb : base ≤ w.heap.size) (hl : zs.length ≤ 140737488353280) (hs : s.size ≤ 64) :
    Calls Try.prog 46 #[v, .string s] w fun E w' => ∃ v', E = .returned v' ∧ Own .u8 5 base w' v' (zs ++ Om.cnt s.data.toList) ∧ Below base w w' := by
  have h10 := Vm.sz_le10 (x := s.size) (by omega)
  have hz10 : (Vm.enc s.size).length ≤ 10 := h10
  go_enter Try.func46, Try.ntmps46
  go_wp2_with fail
  refine (app_any _ [] s.size _ (Is.nil _ _) (by simp) (by omega) (by omega)).mono ?_
  rintro E w1 ⟨v1, rfl, own1, bel1⟩
  rw [Int.toNat_natCast, List.nil_append] at own1
  have hb1 := bel1.size
  have hv1 := hv.below bel1
  have is1 := own1.is
  go_wp2_with (at_builtin; refine wpList_append_is rfl (.tmp 5) (.tmp 9) 23 rfl .u8 5 base 1 Try.underlying23 Try.info5 (by decide) _ zs rfl hv1 _ (Vm.enc s.size) rfl is1 (by omega) (by omega) ?_)
  intro v2 w2 own2 bel2 _
  have hb2 := bel2.size
  have hl2 : (zs ++ Vm.enc s.size).length ≤ 140737488353290 := by rw [List.length_append]; omega
  go_wp2_with (at_builtin; refine wpList_append_str rfl (.tmp 11) (.tmp 12) 23 9 rfl 5 base Try.underlying23 Try.underlying9 Try.info5 _ (zs ++ Vm.enc s.size) rfl own2 s rfl (by omega) (by omega) ?_)
  intro v3 w3 own3 bel3
  have own4 : Own .u8 5 base w3 v3 (zs ++ Om.cnt s.data.toList) := by
    unfold Om.cnt
    rw [← Lib.size_eq, ← List.append_assoc]
    simpa using own3
  go_wp2
  go_ret
  exact ⟨_, rfl, own4, ((bel1.mono hb).trans bel2).trans bel3⟩

set_option maxHeartbeats 400000 in
theorem osize_any (p : Bool) (k v : ByteArray) (w : World) (hc : Om.chk p k.data.toList v.data.toList = 0) :
    Calls Try.prog 45 #[opv p k v] w fun E w' => E = .returned (.int .i64 (Om.opEnc p k.data.toList v.data.toList).length) ∧ Below w.heap.size w w' := by
  have hh := Om.chk_ok' hc
  rw [← Lib.size_eq, ← Lib.size_eq] at hh
  have h1 := Om.cnt_le (s := k.data.toList) (by rw [← Lib.size_eq]; omega)
  have h2 := Om.cnt_le (s := v.data.toList) (by rw [← Lib.size_eq]; omega)
  have hk : k.size ≤ 140737488351232 := by omega
  have hv : v.size ≤ 140737488351232 := by omega
  clear hc hh
  unfold opv
  cases p
  · obtain ⟨n, hn⟩ : ∃ n, (Om.cnt k.data.toList).length = n := ⟨_, rfl⟩
    have e : ((Om.opEnc false k.data.toList v.data.toList).length : Int) = 1 + n := by unfold Om.opEnc; simp [hn]; omega
    rw [e]
    rw [hn] at h1
    have HN := hide hn
    clear hn e h2
    go_enter Try.func45, Try.ntmps45
    go_wp2_with fail
    refine (csize_any k _ hk).mono ?_
    rintro E w1 ⟨rfl, rfl⟩
    rw [HN.out]
    go_wp2
    go_ret
    exact ⟨rfl, (Below.refl _ _).alloc (Nat.le_refl _) _⟩
  · have e : ((Om.opEnc true k.data.toList v.data.toList).length : Int) = 1 + ((Om.cnt k.data.toList).length : Nat) + ((Om.cnt v.data.toList).length : Nat) := by unfold Om.opEnc; simp; omega
    rw [e]
    clear e
    go_enter Try.func45, Try.ntmps45
    go_wp2_with fail
    go_quiet ((go_at_call 55; refine Calls.quiet_of (csize_q _ _ (by assumption))))
    go_wp2
    go_ret
    exact ⟨rfl, below_drewN ((Below.refl _ _).alloc (Nat.le_refl _) _) _⟩

end Go.Proofs.Ytfgbdcncbhilfaa
