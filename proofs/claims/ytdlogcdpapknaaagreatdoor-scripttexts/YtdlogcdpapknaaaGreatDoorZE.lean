/- Texts of one layer, one behind the other. -/
import Derived.Test.YtdlogcdpapknaaaGreatDoorZD
import Derived.Test.YtdlogcdpapknaaaGreatDoorZA
import Derived.Lib.Strings
import Derived.Lib.AppendStr
import Derived.Lib.UnsafeStr
import Derived.Laws.BytesArg
import Derived.Test.YtdlogcdpapknaaaGreatDoorZB
import Derived.Test.YtdlogcdpapknaaaGreatDoorZC
/- The contracts of op's Check, size. -/
namespace Go.Proofs.YtdlogcdpapknaaaGreatDoor
open Go.RowKit
set_option linter.unusedVariables false

/-- An op as a value. -/
def opv (p : Bool) (k v : ByteArray) : Value := .agg #[.bool p, .string k, .string v]

theorem chk_size (p : Bool) (k v : ByteArray) : Om.chk p k.data.toList v.data.toList = if 1 ≤ k.size ∧ k.size ≤ 16 ∧ v.size ≤ 32 ∧ (p = true ∨ v.toList.isEmpty = true) then 0 else 2 := by
  unfold Om.chk
  simp only [Lib.toList_data, List.isEmpty_iff, Lib.size_eq]

set_option maxHeartbeats 400000 in
theorem check_any (p : Bool) (k v : ByteArray) (w : World) (hk : k.size ≤ 140737488351232) (hv : v.size ≤ 140737488351232) :
    Calls Tryz.prog 77 #[opv p k v] w fun E w' => E = .returned (.int .i64 (Om.chk p k.data.toList v.data.toList)) ∧ Below w.heap.size w w' := by
  unfold opv
  obtain ⟨c, hc⟩ : ∃ c, Om.chk p k.data.toList v.data.toList = c := ⟨_, rfl⟩
  rw [hc]
  have HC := hide hc
  clear hc
  go_enter Tryz.func77, Tryz.ntmps77
  go_wp2
  all_goals go_ret
  all_goals refine ⟨ret_i64 ?_, (Below.refl _ _).alloc (Nat.le_refl _) _⟩
  all_goals rw [← HC.out, chk_size]
  all_goals clear HC
  all_goals (cases p <;> simp_all <;> first | omega | (intros; omega))

section
variable {P : Program} {w : World} {ops : Array Oper} {rest : List Oper} {o : Oper} {a : Act} {Q : Exit → Act → World → Prop}

/-- 'out = append(out, s...)', s a string. -/
theorem wpList_append_str (hgd : o.guard = none) (sl x : Operand) (t u : TypeId)
    (ho : o.op = .call { callee := .builtin .append, args := #[sl, x], argTypes := #[t, u] })
    (e : TypeId) (base : Nat) (ht : P.underlying t = some (.slice e)) (hu : P.underlying u = some .string) (hinfo : (P.info? e).map (fun i => (i.zero, i.size, i.bytes)) = some (some (.int .u8 0), 1, 1))
    (v : Value) (zs : List Int) (hs : a.eval sl = v) (hown : Own .u8 e base w v zs) (s : ByteArray) (hx : a.eval x = .string s)
    (hlen : zs.length + s.size ≤ 140737488355328) (hbase : base ≤ w.heap.size)
    (h : ∀ v' w', Own .u8 e base w' v' (zs ++ Om.ints s.data.toList) → Below base w w' → wpList P ops Q rest (a.put o.dst v') w') : wpList P ops Q (o :: rest) a w := by
  obtain ⟨i, hi, hz, hsize, hb⟩ := info_parts hinfo
  refine Lib.wpList_append_own_string w hgd sl x t u ho base e i ht hu hi hz hsize hb v zs.length _ hs hown.2 s hx (by unfold maxLen; omega) hlen hbase fun v' w' h1 h2 _ => ?_
  refine h v' w' ⟨?_, ?_⟩ ((Below.refl _ _).grown h2 hbase fun k' hk => (hown.2.lt k' hk).1)
  · intro z hz
    rcases List.mem_append.1 hz with hz | hz
    · exact hown.1 z hz
    · unfold Om.ints at hz
      obtain ⟨c, _, rfl⟩ := List.mem_map.1 hz
      have := c.toNat_lt
      exact wf_u8 (by omega) (by omega)
  · have e1 : zs.length + s.size = (zs ++ Om.ints s.data.toList).length := by rw [List.length_append, Om.ints_len, Lib.size_eq]
    rw [e1] at h1
    simpa [Lib.strCells_eq, Lib.byteCells, Om.ints, List.map_append, Function.comp_def] using h1

end

end Go.Proofs.YtdlogcdpapknaaaGreatDoor

/- The contracts of op's readCounted and Read. -/
namespace Go.Proofs.YtdlogcdpapknaaaGreatDoor
open Go.RowKit
set_option linter.unusedVariables false

/-- 'string(b)'. -/
theorem Is.conv {w : World} {v : Value} {zs : List Int} (h : Is .u8 w v zs) {P : Program} {src e dst : TypeId} (hs : P.underlying src = some (.slice e)) (he : P.underlying e = some (.int .u8)) (hd : P.underlying dst = some .string) :
    (convert src dst v).run P w = .ok (.string ⟨(Om.byts zs).toArray⟩) w := by
  by_cases hz : 0 < zs.length
  · obtain ⟨b, o, c, rfl, _, _, _, hc⟩ := h.full hz
    exact run_convert_bytes_arg w src e hs he b o zs.length c zs rfl hc dst hd
  · have : zs = [] := List.eq_nil_of_length_eq_zero (by omega)
    subst this
    obtain ⟨ao, c, rfl⟩ := h.bare
    cases ao with
    | none => exact run_convert_bytes_nil w src e hs he 0 c dst hd
    | some ad =>
      rw [run_convert_bytes_string w src dst e _ 0 c hs he hd, run_bytesToString w ad 0 c [] (by have := run_loadCells_list (P := P) w ad [] (by simp); simpa using this)]
      rfl

theorem Is.bytes {w : World} {v : Value} {zs : List Int} (h : Is .u8 w v zs) : ∀ z ∈ zs, 0 ≤ z ∧ z < 256 := by
  intro z hz
  obtain ⟨i, hi, rfl⟩ := List.getElem_of_mem hz
  have := h.byte i
  simpa [List.getD, hi] using this

theorem cres_bad {bs : List Int} {most : Nat} {u i g : Int} (hS : SRes bs most u i g) (hg : g ≠ 0) (hm : most ≤ 64) : ∀ t : List UInt8, t.length ≤ most → ¬ Om.cnt t <+: bs := by
  intro t ht hp
  have hp1 : Vm.enc t.length <+: bs := (List.prefix_append _ _).trans hp
  rcases hS with ⟨_, _, _, h⟩ | ⟨_, _, _, x, n, e, hR, hc⟩
  · exact hg h
  · have := Vm.res_good hR (u := t.length) (by omega) hp1
    omega

theorem cres_short {bs : List Int} {most : Nat} {u i : Int} (hR : Vm.Res bs u i 0) (hs : (bs.length : Int) - i < u) : ∀ t : List UInt8, t.length ≤ most → most ≤ 64 → ¬ Om.cnt t <+: bs := by
  intro t ht hm hp
  have hp1 : Vm.enc t.length <+: bs := (List.prefix_append _ _).trans hp
  have := Vm.res_good hR (u := t.length) (by omega) hp1
  have h2 := hp.length_le
  rw [Om.cnt_len] at h2
  omega

theorem cres_good {bs : List Int} {most u n : Nat} (hb : ∀ z ∈ bs, 0 ≤ z ∧ z < 256) (hR : Vm.Res bs u n 0) (hu : u ≤ most) (hs : n + u ≤ bs.length) :
    Om.CRes bs most (Om.byts ((bs.drop n).take u)) (n + u) 0 := by
  have hl : (Om.byts ((bs.drop n).take u)).length = u := by rw [Om.byts_len, List.length_take, List.length_drop]; omega
  rcases hR with ⟨x, _, hp, h1, h2, _⟩ | ⟨_, _, _, h⟩
  · have hx : x = u := by omega
    have hn : n = Vm.sz u := by rw [hx] at h2; omega
    subst hx
    refine .inl ⟨rfl, by rw [hl]; exact hu, ?_, ?_⟩
    · unfold Om.cnt
      rw [hl, Om.ints_byts (fun z hz => hb z (List.mem_of_mem_drop (List.mem_of_mem_take hz)))]
      obtain ⟨r, hr⟩ := hp
      have hln : (Vm.enc x).length = n := hn.symm
      have : bs.drop n = r := by rw [← hr, ← hln]; simp
      rw [this, ← hr]
      exact (List.prefix_append_right_inj _).2 (List.take_prefix _ _)
    · rw [Om.cnt_len, hl, hn]
  · simp at h

theorem empty_of {s : ByteArray} (h : s.data.toList = []) : s = ⟨#[]⟩ := by
  obtain ⟨⟨l⟩⟩ := s
  simp at h
  rw [h]

end Go.Proofs.YtdlogcdpapknaaaGreatDoor

/- The document's Number (layer 25). -/
namespace Go.Proofs.YtdlogcdpapknaaaGreatDoor
open Go.RowKit
set_option linter.unusedVariables false
set_option maxRecDepth 100000

theorem str_at {s : ByteArray} {k : Nat} {c : UInt8} (h : k < s.size) (hc : s[k] = c) : s.data.toList[k]? = some c := by
  rw [List.getElem?_eq_getElem (by rw [← Lib.size_eq s]; exact h), ← hc]
  rfl
theorem str_take {s : ByteArray} {k : Nat} {c : UInt8} (h : k < s.size) (hc : s[k] = c) : s.data.toList.take (k + 1) = s.data.toList.take k ++ [c] := by
  have := str_at h hc
  obtain ⟨h1, h2⟩ := List.getElem?_eq_some_iff.1 this
  rw [List.take_succ_eq_append_getElem h1, h2]

/-- What Number comes to. -/
def NumR (s : List UInt8) (w : World) (E : Ending) (w' : World) : Prop := ∃ n ok, E = .returned (.tuple #[.int .i64 n, .bool ok]) ∧ (0 ≤ n ∧ n ≤ 999999999) ∧ Sct.NRes s n ok ∧ w = w'

set_option maxHeartbeats 2000000 in
theorem numR_any (s : ByteArray) (w : World) (hs : s.size ≤ 35184372088832) : Calls Tryz.prog 95 #[.string s] w (NumR s.data.toList w) := by
  have hl : s.data.toList.length = s.size := (Lib.size_eq s).symm
  have NO : ∀ n, (0 ≤ n ∧ n ≤ 999999999) → ¬ ((∀ c ∈ s.data.toList, Sct.isDig c) ∧ 1 ≤ s.data.toList.length ∧ s.data.toList.length ≤ 9 ∧ (s.data.toList.head? = some 48 → s.data.toList.length = 1)) → NumR s.data.toList w (.returned (.tuple #[.int .i64 n, .bool false])) w := fun n hn h => ⟨n, false, rfl, hn, Sct.nres_no h, rfl⟩
  by_cases h1 : s.size < 1
  · have h1' : (s.size : Int) < 1 := by omega
    have R := hide (NO 0 (by decide) fun h => by omega)
    clear h1 NO
    go_enter Tryz.func95, Tryz.ntmps95
    go_wp2
    go_ret2
    exact R.out
  · have h1' : ¬ (s.size : Int) < 1 := by omega
    have p0 : 0 < s.size := by omega
    obtain ⟨c, hc⟩ : ∃ c : UInt8, s[0]'p0 = c := ⟨_, rfl⟩
    have hh : s.data.toList.head? = some c := by
      have := str_at p0 hc
      rw [← this]
      cases s.data.toList <;> rfl
    by_cases h9 : 9 < s.size
    · have h9' : (9 : Int) < s.size := by omega
      have R := hide (NO 0 (by decide) fun h => by omega)
      clear h1 h9 NO
      go_enter Tryz.func95, Tryz.ntmps95
      go_wp2
      go_ret2
      exact R.out
    · have h9' : ¬ (9 : Int) < s.size := by omega
      have hi : (0 : Int) < s.size := by omega
      by_cases h0 : c = 48 ∧ 1 < s.size
      · obtain ⟨h0, h2⟩ := h0
        have h2' : (1 : Int) < s.size := by omega
        subst h0
        have R := hide (NO 0 (by decide) fun h => by have := h.2.2.2 hh; omega)
        clear h1 h9 hh h2 NO
        go_enter Tryz.func95, Tryz.ntmps95
        go_wp2
        go_ret2
        exact R.out
      · have HH : Hid (s.data.toList.head? = some 48 → s.data.toList.length = 1) := hide fun e => by
          rw [hh] at e
          have e := Option.some.inj e
          have : ¬ 1 < s.size := fun k => h0 ⟨e, k⟩
          omega
        have H19 : Hid (1 ≤ s.size ∧ s.size ≤ 9) := hide ⟨by omega, by omega⟩
        have HNO := hide NO
        have hcase : (c = 48 ∧ ¬ (1 : Int) < s.size) ∨ ((c.toNat : Int) == 48) = false := by
          by_cases hc48 : c = 48
          · refine .inl ⟨hc48, ?_⟩
            have : ¬ 1 < s.size := fun k => h0 ⟨hc48, k⟩
            omega
          · refine .inr ?_
            have : c.toNat ≠ 48 := fun e => hc48 (UInt8.toNat.inj e)
            simp
            omega
        rcases hcase with ⟨rfl, h2⟩ | hcn
        all_goals
          clear h1 h9 hh h0 NO
          go_enter Tryz.func95, Tryz.ntmps95
          go_wp2
          clear hc
          go_loopw [4, 5] (fun nv iv wr => ∃ k v : Nat, k ≤ s.size ∧ iv = .int .i64 k ∧ nv = .int .i64 v ∧ v ≤ 999999999 ∧ Hid (v = Sct.val (s.data.toList.take k) ∧ ∀ c ∈ s.data.toList.take k, Sct.isDig c) ∧ wr = w) (fun _ iv _ => s.size - (intOf iv).toNat)
          case atStart => exact ⟨0, 0, by omega, rfl, rfl, by omega, hide ⟨rfl, by simp⟩, rfl⟩
          case round =>
            obtain ⟨k, v, hk, rfl, rfl, hv, HV, rfl⟩ := hrel
            by_cases hlt : k < s.size
            · have hlt' : (k : Int) < s.size := by omega
              obtain ⟨d, hd⟩ : ∃ d : UInt8, s[k]'hlt = d := ⟨_, rfl⟩
              have HT := hide (str_take hlt hd)
              have HA := hide (str_at hlt hd)
              by_cases hdig : Sct.isDig d
              · have g1 : ¬ (d.toNat : Int) < 48 := by have := hdig.1; omega
                have g2 : ¬ (57 : Int) < d.toNat := by have := hdig.2; omega
                have e1 : ((d.toNat : Int) - 48) % 256 = ((d.toNat - 48 : Nat) : Int) := by have := hdig.1; have := hdig.2; omega
                have hall : ∀ c ∈ s.data.toList.take (k + 1), Sct.isDig c := by
                  rw [HT.out]
                  intro x hx
                  rcases List.mem_append.1 hx with hx | hx
                  · exact HV.out.2 x hx
                  · rw [List.mem_singleton.1 hx]
                    exact hdig
                have hval : Sct.val (s.data.toList.take (k + 1)) = 10 * v + (d.toNat - 48) := by rw [HT.out, Sct.val_snoc, HV.out.1]
                have hlt9 : 10 * v + (d.toNat - 48) ≤ 999999999 := by
                  rw [← hval]
                  have h1 := Sct.val_lt _ hall
                  have h2 : (s.data.toList.take (k + 1)).length ≤ 9 := by rw [List.length_take]; have := H19.out.2; omega
                  have h3 : (10 : Nat) ^ (s.data.toList.take (k + 1)).length ≤ 10 ^ 9 := Nat.pow_le_pow_right (by decide) h2
                  have e9 : (10 : Nat) ^ 9 = 1000000000 := by decide
                  omega
                have HV2 : Hid (10 * v + (d.toNat - 48) = Sct.val (s.data.toList.take (k + 1)) ∧ ∀ c ∈ s.data.toList.take (k + 1), Sct.isDig c) := hide ⟨hval.symm, hall⟩
                obtain ⟨z, hz⟩ : ∃ z : Nat, d.toNat - 48 = z := ⟨_, rfl⟩
                rw [hz] at e1 HV2 hlt9
                clear hall hval hdig HT HA HV hz
                go_wp2
                go_roundw
                case rel => exact ⟨k + 1, 10 * v + z, by omega, by go_num, by go_num, hlt9, HV2, by trivial⟩
                case measure => simp [intOf]; omega
              · have R := hide (HNO.out 0 (by decide) fun h => hdig (h.1 d (List.mem_of_getElem? HA.out)))
                have g : (d.toNat : Int) < 48 ∨ (¬ (d.toNat : Int) < 48 ∧ (57 : Int) < d.toNat) := by
                  unfold Sct.isDig at hdig
                  omega
                clear hdig HT HA HV
                rcases g with g | ⟨g, g'⟩
                · go_wp2
                  go_ret2
                  exact R.out
                · go_wp2
                  go_ret2
                  exact R.out
            · have hlt' : ¬ (k : Int) < s.size := by omega
              obtain rfl : k = s.size := by omega
              have R : Hid (NumR s.data.toList wr (.returned (.tuple #[.int .i64 v, .bool true])) wr) := hide (by
                have h := HV.out
                rw [List.take_of_length_le (by omega)] at h
                obtain ⟨h1, h2⟩ := h
                refine ⟨v, true, rfl, ⟨by omega, by omega⟩, ?_, rfl⟩
                rw [h1]
                exact Sct.nres_yes h2 (by have := H19.out.1; omega) (by have := H19.out.2; omega) HH.out)
              go_wp2
              go_ret2
              exact R.out

end Go.Proofs.YtdlogcdpapknaaaGreatDoor

/- Blocks of cells: one that a call has made, its cells, a store into it. No program. -/
namespace Go.Proofs.YtdlogcdpapknaaaGreatDoor
open Go.RowKit
set_option linter.unusedVariables false

theorem blk_cell {w : World} {g : Nat} {cs : Array Value} {t : TypeId} {fr : Nat × Nat} (hg : w.heap[g]? = some (.cells cs t fr)) (j : Nat) {u : Value} (hj : cs[j]? = some u) : w.cell? ⟨g, j, none⟩ = some u := by simp [World.cell?, hg, hj]
theorem blk_froz {w : World} {g : Nat} {cs : Array Value} {t : TypeId} (hg : w.heap[g]? = some (.cells cs t (0, 0))) (j : Nat) : w.frozen? ⟨g, j, none⟩ = false := by simp [World.frozen?, hg]

theorem blk_step (w : World) (cs : Array Value) (e : TypeId) : ∃ W, w.alloc (.cells cs e) = W ∧ W.heap.size = w.heap.size + 1 ∧ Below w.heap.size w W ∧ W.heap[w.heap.size]? = some (.cells cs e (0, 0)) := by
  refine ⟨_, rfl, by simp, (Below.refl _ _).alloc (Nat.le_refl _) _, heap_alloc_new w _⟩

theorem blk_lt {w : World} {g : Nat} {o : Obj} (h : w.heap[g]? = some o) : g < w.heap.size := (Array.getElem?_eq_some_iff.1 h).1

theorem set_same {w : World} {g j : Nat} {cs : Array Value} {t : TypeId} {fr : Nat × Nat} {u : Value} (hg : w.heap[g]? = some (.cells cs t fr)) (hj : cs[j]? = some u) : w.setCell ⟨g, j, none⟩ u = w := by
  have h2 : cs.setIfInBounds j u = cs := by
    apply Array.ext_getElem?
    intro i
    rw [Array.getElem?_setIfInBounds]
    by_cases h : j = i
    · subst h
      rw [if_pos rfl, hj]
      have := (Array.getElem?_eq_some_iff.1 hj).1
      simp [this]
    · rw [if_neg h]
  have : (w.setCell ⟨g, j, none⟩ u).heap = w.heap := by
    apply Array.ext_getElem?
    intro i
    by_cases h : i = g
    · subst h
      rw [set_cells hg, h2, hg]
    · exact Below.heap_setCell _ _ _ _ h
  have e : w.setCell ⟨g, j, none⟩ u = { w with heap := (w.setCell ⟨g, j, none⟩ u).heap } := rfl
  rw [e, this]

theorem grown_fresh {w V V' : World} {row : Option Nat} {R : Nat} (h : w.grownBy V row) (hp : V.grownBy V' (some R)) (hR : w.heap.size ≤ R) : w.grownBy V' row :=
  ⟨hp.os.trans h.os, hp.tape.trans h.tape, hp.output.trans h.output, Nat.le_trans h.size hp.size, fun i hi hne => (hp.block i (Nat.lt_of_lt_of_le hi h.size) (by simp; omega)).trans (h.block i hi hne)⟩

theorem put3 {V : World} {R : Nat} {t : TypeId} {fr : Nat × Nat} {x y z : Value} (hR : V.heap[R]? = some (.cells #[x, y, z] t fr)) (a b c : Value) :
    ∃ V', ((V.setCell ⟨R, 0, none⟩ a).setCell ⟨R, 1, none⟩ b).setCell ⟨R, 2, none⟩ c = V' ∧ V'.heap[R]? = some (.cells #[a, b, c] t fr) ∧ V.grownBy V' (some R) :=
  ⟨_, rfl, set_cells (set_cells (set_cells hR 0 a) 1 b) 2 c, grown_trans (grown_trans (grown_setCell V ⟨R, 0, none⟩ a) (grown_setCell _ ⟨R, 1, none⟩ b)) (grown_setCell _ ⟨R, 2, none⟩ c)⟩

/-- Three cells of a block are written. -/
theorem res_step {V : World} {R : Nat} {t : TypeId} {x y z : Value} (hR : V.heap[R]? = some (.cells #[x, y, z] t (0, 0))) (a b c : Value) :
    ∃ V', ((V.setCell ⟨R, 0, none⟩ a).setCell ⟨R, 1, none⟩ b).setCell ⟨R, 2, none⟩ c = V' ∧ V'.heap[R]? = some (.cells #[a, b, c] t (0, 0)) ∧ V.grownBy V' (some R) ∧
      (V.cell? ⟨R, 0, none⟩ = some x ∧ V.cell? ⟨R, 1, none⟩ = some y ∧ V.cell? ⟨R, 2, none⟩ = some z) ∧ (V.frozen? ⟨R, 0, none⟩ = false ∧ V.frozen? ⟨R, 1, none⟩ = false ∧ V.frozen? ⟨R, 2, none⟩ = false) ∧
      (V'.cell? ⟨R, 0, none⟩ = some a ∧ V'.cell? ⟨R, 1, none⟩ = some b ∧ V'.cell? ⟨R, 2, none⟩ = some c) := by
  obtain ⟨V', h1, h2, h3⟩ := put3 hR a b c
  exact ⟨V', h1, h2, h3, ⟨blk_cell hR 0 rfl, blk_cell hR 1 rfl, blk_cell hR 2 rfl⟩, ⟨blk_froz hR 0, blk_froz hR 1, blk_froz hR 2⟩, ⟨blk_cell h2 0 rfl, blk_cell h2 1 rfl, blk_cell h2 2 rfl⟩⟩

theorem below_put {w V V' : World} {R base : Nat} (h : Below base w V) (hg : V.grownBy V' (some R)) (hb : base ≤ R) (hs : base ≤ V.heap.size) : Below base w V' := h.grown hg hs (fun k hk => by simp at hk; omega)

/-- A block of three cells, made and written. -/
theorem new_step (w : World) (t : TypeId) (x y z a b c : Value) : ∃ V, ((((w.alloc (.cells #[x, y, z] t)).setCell ⟨w.heap.size, 0, none⟩ a).setCell ⟨w.heap.size, 1, none⟩ b).setCell ⟨w.heap.size, 2, none⟩ c = V) ∧ w.alloc (.cells #[a, b, c] t) = V ∧ V.heap.size = w.heap.size + 1 ∧ Below w.heap.size w V ∧ V.heap[w.heap.size]? = some (.cells #[a, b, c] t (0, 0)) ∧
    V.cell? ⟨w.heap.size, 0, none⟩ = some a ∧ V.cell? ⟨w.heap.size, 1, none⟩ = some b ∧ V.cell? ⟨w.heap.size, 2, none⟩ = some c := by
  obtain ⟨V, h1, h2, h3, h4⟩ := blk_step w #[a, b, c] t
  refine ⟨V, ?_, h1, h2, h3, h4, blk_cell h4 0 rfl, blk_cell h4 1 rfl, blk_cell h4 2 rfl⟩
  rw [← h1]
  simp [go_sem]

theorem wrap_i64_small (z : Int) (h0 : -9223372036854775808 ≤ z) (h1 : z < 9223372036854775808) : IntKind.i64.wrap z = z := by
  unfold IntKind.wrap
  simp [IntKind.bits, IntKind.signed]
  omega

theorem put_c {V : World} {R : Nat} {t : TypeId} {cs : Array Value} (hR : V.heap[R]? = some (.cells cs t (0, 0))) (j : Nat) (u : Value) :
    ∃ V', V.setCell ⟨R, j, none⟩ u = V' ∧ V'.heap[R]? = some (.cells (cs.setIfInBounds j u) t (0, 0)) ∧ V.grownBy V' (some R) ∧ V.frozen? ⟨R, j, none⟩ = false :=
  ⟨_, rfl, set_cells hR j u, grown_setCell _ _ _, blk_froz hR j⟩

end Go.Proofs.YtdlogcdpapknaaaGreatDoor

/- The document's name, shape and has (layer 25). -/
namespace Go.Proofs.YtdlogcdpapknaaaGreatDoor
open Go.RowKit
set_option linter.unusedVariables false
set_option maxRecDepth 100000

/-- A kind's shape. -/
def shp (k : Int) : List UInt8 :=
  if k = 1 then [110, 111] else if k = 2 then [110, 107] else if k = 3 ∨ k = 4 ∨ k = 5 ∨ k = 10 then [110] else if k = 6 ∨ k = 7 ∨ k = 8 then [97] else if k = 9 then [110, 97] else if k = 11 then [110, 97, 116] else []

theorem kind_of (k : Int) : k = 1 ∨ k = 2 ∨ k = 3 ∨ k = 4 ∨ k = 5 ∨ k = 6 ∨ k = 7 ∨ k = 8 ∨ k = 9 ∨ k = 10 ∨ k = 11 ∨ ((k == 1) = false ∧ (k == 2) = false ∧ (k == 3) = false ∧ (k == 4) = false ∧ (k == 5) = false ∧ (k == 6) = false ∧ (k == 7) = false ∧ (k == 8) = false ∧ (k == 9) = false ∧ (k == 10) = false ∧ (k == 11) = false) := by
  by_cases h : 1 ≤ k ∧ k ≤ 11
  · omega
  · simp only [beq_eq_false_iff_ne, ne_eq]
    omega

theorem shp_no {k : Int} (h : (k == 1) = false ∧ (k == 2) = false ∧ (k == 3) = false ∧ (k == 4) = false ∧ (k == 5) = false ∧ (k == 6) = false ∧ (k == 7) = false ∧ (k == 8) = false ∧ (k == 9) = false ∧ (k == 10) = false ∧ (k == 11) = false) : shp k = [] := by
  simp only [beq_eq_false_iff_ne, ne_eq] at h
  obtain ⟨h1, h2, h3, h4, h5, h6, h7, h8, h9, h10, h11⟩ := h
  simp [shp, h1, h2, h3, h4, h5, h6, h7, h8, h9, h10, h11]

set_option maxHeartbeats 4000000 in
theorem shapeR_any (k : Int) (w : World) : Calls Tryz.prog 74 #[.int .i64 k] w fun E w' => E = .returned (.string ⟨(shp k).toArray⟩) ∧ w = w' := by
  rcases kind_of k with rfl | rfl | rfl | rfl | rfl | rfl | rfl | rfl | rfl | rfl | rfl | h
  case inr.inr.inr.inr.inr.inr.inr.inr.inr.inr.inr =>
    rw [shp_no h]
    obtain ⟨h1, h2, h3, h4, h5, h6, h7, h8, h9, h10, h11⟩ := h
    go_enter Tryz.func74, Tryz.ntmps74
    go_wp2
    go_ret
    exact ⟨rfl, rfl⟩
  all_goals
    go_enter Tryz.func74, Tryz.ntmps74
    go_wp2
    go_ret
    exact ⟨rfl, rfl⟩

set_option maxHeartbeats 4000000 in
theorem hasR_any (k : Int) (c : UInt8) (w : World) : Calls Tryz.prog 44 #[.int .i64 k, .int .u8 c.toNat] w fun E w' => E = .returned (.bool (decide (c ∈ shp k))) ∧ w = w' := by
  have SH := hide (shapeR_any k w)
  obtain ⟨s, hs⟩ : ∃ s : ByteArray, (⟨(shp k).toArray⟩ : ByteArray) = s := ⟨_, rfl⟩
  have hl : shp k = s.data.toList := by rw [← hs]
  have hz : s.size ≤ 3 := by
    rw [Lib.size_eq s, ← hl]
    unfold shp
    repeat' split
    all_goals decide
  obtain ⟨b, hb⟩ : ∃ b, decide (c ∈ shp k) = b := ⟨_, rfl⟩
  have HL : Hid (decide (c ∈ s.data.toList) = b) := hide (by rw [← hl]; exact hb)
  rw [hs] at SH
  rw [hb]
  clear hs hl hb
  go_enter Tryz.func44, Tryz.ntmps44
  go_wp2_with fail
  refine SH.out.mono ?_
  rintro E w1 ⟨rfl, rfl⟩
  clear SH
  go_wp2
  go_loopw [6] (fun iv wr => ∃ i : Nat, i ≤ s.size ∧ iv = .int .i64 i ∧ Hid (c ∉ s.data.toList.take i) ∧ wr = w) (fun iv _ => s.size - (intOf iv).toNat)
  case atStart => exact ⟨0, by omega, rfl, hide (by simp), rfl⟩
  case round =>
    obtain ⟨i, hi, rfl, HN, rfl⟩ := hrel
    by_cases hlt : i < s.size
    · have hlt' : (i : Int) < s.size := by omega
      obtain ⟨d, hd⟩ : ∃ d : UInt8, s[i]'hlt = d := ⟨_, rfl⟩
      by_cases hdc : d = c
      · subst hdc
        have hq : ((d.toNat : Int) == (d.toNat : Int)) = true := by simp
        obtain rfl : b = true := HL.out.symm.trans (decide_eq_true (List.mem_of_getElem? (str_at hlt hd)))
        clear HN
        go_wp2
        go_ret
        exact ⟨rfl, rfl⟩
      · have hq : ((d.toNat : Int) == (c.toNat : Int)) = false := by
          have : d.toNat ≠ c.toNat := fun e => hdc (UInt8.toNat.inj e)
          simp
          omega
        have HN2 : Hid (c ∉ s.data.toList.take (i + 1)) := hide fun e => by
          rw [str_take hlt hd] at e
          rcases List.mem_append.1 e with e | e
          · exact HN.out e
          · exact hdc (List.mem_singleton.1 e).symm
        clear HN
        go_wp2
        go_roundw
        case rel => exact ⟨i + 1, by omega, by go_num, HN2, by trivial⟩
        case measure => simp [intOf]; omega
    · have hlt' : ¬ (i : Int) < s.size := by omega
      obtain rfl : b = false := HL.out.symm.trans (by
        have h := HN.out
        rw [List.take_of_length_le (by rw [← Lib.size_eq s]; omega)] at h
        exact decide_eq_false h)
      go_wp2
      go_ret
      exact ⟨rfl, rfl⟩

/-- Has a kind such a word? -/
def hsB (k c : Int) : Bool := decide (UInt8.ofNat c.toNat ∈ shp k)
theorem has25 (k c : Int) (hc : 0 ≤ c ∧ c < 256) (w : World) : Calls Tryz.prog 44 #[.int .i64 k, .int .u8 c] w fun E w' => E = .returned (.bool (hsB k c)) ∧ w = w' := by
  have h := hasR_any k (UInt8.ofNat c.toNat) w
  have e : ((UInt8.ofNat c.toNat).toNat : Int) = c := by rw [UInt8.toNat_ofNat']; omega
  rw [e] at h
  exact h

theorem shp_has (k : Int) : decide ((110 : UInt8) ∈ shp k) = Sct.hu k ∧ decide ((107 : UInt8) ∈ shp k) = Sct.hk k ∧ decide ((97 : UInt8) ∈ shp k) = Sct.hn k ∧ decide ((116 : UInt8) ∈ shp k) = Sct.ht k ∧ decide ((111 : UInt8) ∈ shp k) = Sct.ho k := by
  rcases kind_of k with rfl | rfl | rfl | rfl | rfl | rfl | rfl | rfl | rfl | rfl | rfl | h
  case inr.inr.inr.inr.inr.inr.inr.inr.inr.inr.inr =>
    rw [shp_no h]
    simp only [beq_eq_false_iff_ne, ne_eq] at h
    obtain ⟨h1, h2, h3, h4, h5, h6, h7, h8, h9, h10, h11⟩ := h
    simp [Sct.hu, Sct.hk, Sct.hn, Sct.ht, Sct.ho, h1, h2, h3, h4, h5, h6, h7, h8, h9, h10, h11]
  all_goals decide

end Go.Proofs.YtdlogcdpapknaaaGreatDoor

/- The words behind a kind's first one, by its shape (layer 25). No program. -/
namespace Go.Proofs.YtdlogcdpapknaaaGreatDoor
set_option linter.unusedVariables false
set_option maxRecDepth 100000

/-- No act of the kind has these words. -/
def NoA (K : Int) (W : List (List UInt8)) : Prop := ∀ b : Sct.Av, Sct.Ok b → b.k = K → Sct.tail b ≠ W

theorem shp_h {K : Int} {l : List UInt8} (h : shp K = l) : Sct.hu K = decide ((110 : UInt8) ∈ l) ∧ Sct.hk K = decide ((107 : UInt8) ∈ l) ∧ Sct.hn K = decide ((97 : UInt8) ∈ l) ∧ Sct.ht K = decide ((116 : UInt8) ∈ l) ∧ Sct.ho K = decide ((111 : UInt8) ∈ l) := by
  obtain ⟨a, b, c, d, e⟩ := shp_has K
  rw [h] at a b c d e
  exact ⟨a.symm, b.symm, c.symm, d.symm, e.symm⟩

theorem ok_of {K : Int} {l : List UInt8} (h : shp K = l) (hK : 1 ≤ K ∧ K ≤ 12) {u n t : Int} {key : ByteArray} {ops : List Bm.Ov} (hu : 0 ≤ u ∧ u ≤ 1) (hn : 0 ≤ n ∧ n ≤ 999999999) (ht : 0 ≤ t ∧ t ≤ 999999999) (u0 : (110 : UInt8) ∈ l ∨ u = 0) (n0 : (97 : UInt8) ∈ l ∨ n = 0) (t0 : (116 : UInt8) ∈ l ∨ t = 0)
    (k0 : ((107 : UInt8) ∈ l ∧ Om.chk false key.data.toList [] = 0) ∨ ((107 : UInt8) ∉ l ∧ key = ⟨#[]⟩)) (o0 : ((111 : UInt8) ∈ l ∧ Bm.chkL ops = 0) ∨ ((111 : UInt8) ∉ l ∧ ops = [])) : Sct.Ok ⟨K, u, n, t, key, ops⟩ := by
  obtain ⟨h1, h2, h3, h4, h5⟩ := shp_h h
  refine ⟨hK, hu, hn, ht, ?_, ?_, ?_, ?_, ?_⟩
  · show Sct.hu K = false → u = 0
    rw [h1]
    intro e
    rcases u0 with u0 | u0
    · rw [decide_eq_true u0] at e; cases e
    · exact u0
  · show Sct.hn K = false → n = 0
    rw [h3]
    intro e
    rcases n0 with u0 | u0
    · rw [decide_eq_true u0] at e; cases e
    · exact u0
  · show Sct.ht K = false → t = 0
    rw [h4]
    intro e
    rcases t0 with u0 | u0
    · rw [decide_eq_true u0] at e; cases e
    · exact u0
  · show if Sct.hk K = true then Om.chk false key.data.toList [] = 0 else key = ⟨#[]⟩
    rw [h2]
    rcases k0 with ⟨a, b⟩ | ⟨a, b⟩
    · rw [decide_eq_true a, if_pos rfl]; exact b
    · rw [decide_eq_false a, if_neg (by decide)]; exact b
  · show if Sct.ho K = true then Bm.chkL ops = 0 else ops = []
    rw [h5]
    rcases o0 with ⟨a, b⟩ | ⟨a, b⟩
    · rw [decide_eq_true a, if_pos rfl]; exact b
    · rw [decide_eq_false a, if_neg (by decide)]; exact b

theorem tail_z {K : Int} (h : shp K = []) (b : Sct.Av) (hb : b.k = K) : Sct.tail b = [] := by
  obtain ⟨h1, h2, h3, h4, h5⟩ := shp_h h
  unfold Sct.tail
  rw [hb, h1, h2, h3, h4, h5]
  first | rfl | simp

theorem tail_n {K : Int} (h : shp K = [110]) (b : Sct.Av) (hb : b.k = K) : Sct.tail b = [Sct.dg b.u.toNat] := by
  obtain ⟨h1, h2, h3, h4, h5⟩ := shp_h h
  unfold Sct.tail
  rw [hb, h1, h2, h3, h4, h5]
  first | rfl | simp

theorem tail_a {K : Int} (h : shp K = [97]) (b : Sct.Av) (hb : b.k = K) : Sct.tail b = [Sct.dg b.n.toNat] := by
  obtain ⟨h1, h2, h3, h4, h5⟩ := shp_h h
  unfold Sct.tail
  rw [hb, h1, h2, h3, h4, h5]
  first | rfl | simp

theorem tail_na {K : Int} (h : shp K = [110, 97]) (b : Sct.Av) (hb : b.k = K) : Sct.tail b = [Sct.dg b.u.toNat, Sct.dg b.n.toNat] := by
  obtain ⟨h1, h2, h3, h4, h5⟩ := shp_h h
  unfold Sct.tail
  rw [hb, h1, h2, h3, h4, h5]
  first | rfl | simp

theorem tail_nat {K : Int} (h : shp K = [110, 97, 116]) (b : Sct.Av) (hb : b.k = K) : Sct.tail b = [Sct.dg b.u.toNat, Sct.dg b.n.toNat, Sct.dg b.t.toNat] := by
  obtain ⟨h1, h2, h3, h4, h5⟩ := shp_h h
  unfold Sct.tail
  rw [hb, h1, h2, h3, h4, h5]
  first | rfl | simp

theorem tail_nk {K : Int} (h : shp K = [110, 107]) (b : Sct.Av) (hb : b.k = K) : Sct.tail b = [Sct.dg b.u.toNat, Wm.wd b.key.data.toList] := by
  obtain ⟨h1, h2, h3, h4, h5⟩ := shp_h h
  unfold Sct.tail
  rw [hb, h1, h2, h3, h4, h5]
  first | rfl | simp

theorem tail_no {K : Int} (h : shp K = [110, 111]) (b : Sct.Av) (hb : b.k = K) : Sct.tail b = [Sct.dg b.u.toNat] ++ Sct.opw b.ops := by
  obtain ⟨h1, h2, h3, h4, h5⟩ := shp_h h
  unfold Sct.tail
  rw [hb, h1, h2, h3, h4, h5]
  first | rfl | simp

end Go.Proofs.YtdlogcdpapknaaaGreatDoor
