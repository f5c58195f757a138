/- Package script (layer 25): acts in memory; the lines of a text. -/
import Derived.Test.YtdlogcdpapknaaaGreatDoorSxn
import Derived.Test.YtdlogcdpapknaaaGreatDoorSxl
import Derived.Test.YtdlogcdpapknaaaGreatDoorZM
import Derived.Test.YtdlogcdpapknaaaGreatDoorZN
namespace Go.Proofs.YtdlogcdpapknaaaGreatDoor
open Go.RowKit Go.Shelf
set_option linter.unusedVariables false
set_option maxRecDepth 100000

/-- An act in memory: its ops as a slice value. -/
structure Aw where
  a : Sct.Av
  v : Value
def aca (x : Aw) : List Value := [.int .i64 x.a.k, .int .i64 x.a.u, .int .i64 x.a.n, .int .i64 x.a.t, .string x.a.key, x.v]
theorem aca_len (x : Aw) : (aca x).length = 6 := rfl

/-- Acts of the call's own. -/
def OwnAs (base : Nat) (w : World) (v : Value) (l : List Aw) : Prop := OwnG aca 6 24 base w v l ∧ ∀ x ∈ l, OwnO 77 base w x.v x.a.ops
/-- Acts as they lie. -/
def IsAs (w : World) (v : Value) (l : List Aw) : Prop := RowG aca w v l ∧ ∀ x ∈ l, IsO w x.v x.a.ops

theorem OwnAs.is {base : Nat} {w : World} {v : Value} {l : List Aw} (h : OwnAs base w v l) : IsAs w v l := ⟨h.1.row, fun x hx => (h.2 x hx).is⟩
theorem OwnAs.nil (base : Nat) (w : World) : OwnAs base w (.slice none 0 0) [] := ⟨OwnG.nil _ _ _ _ _, fun x hx => by simp at hx⟩
theorem OwnAs.below {base : Nat} {w w' : World} {v : Value} {l : List Aw} (h : OwnAs base w v l) (hb : Below w.heap.size w w') : OwnAs base w' v l :=
  ⟨h.1.agree fun b hv => hb.block b (h.1.lt b hv).2, fun x hx => (h.2 x hx).below hb⟩
theorem IsAs.below {w w' : World} {v : Value} {l : List Aw} (h : IsAs w v l) (hb : Below w.heap.size w w') : IsAs w' v l := ⟨h.1.below hb, fun x hx => (h.2 x hx).below hb⟩
theorem OwnAs.rebase {base base' : Nat} {w : World} {v : Value} {l : List Aw} (h : OwnAs base w v l) (hb : base' ≤ base) : OwnAs base' w v l := ⟨h.1.rebase hb, fun x hx => (h.2 x hx).rebase hb⟩
theorem OwnAs.kept {base : Nat} {w w' : World} {v : Value} {l : List Aw} {row : Option Nat} (h : OwnAs base w v l) (hg : w.grownBy w' row) (hr : ∀ r, row = some r → r < base ∨ ∃ o : Obj, w.heap[r]? = some o ∧ o.isCells = false) : OwnAs base w' v l := by
  have key : ∀ b, base ≤ b → b < w.heap.size → (∃ cs t fr, w.heap[b]? = some (.cells cs t fr)) → w'.heap[b]? = w.heap[b]? := fun b h1 h2 h3 => hg.block b h2 fun e => by
    rcases hr b e.symm with h4 | ⟨o, h4, h5⟩
    · omega
    · obtain ⟨cs, t, fr, h6⟩ := h3
      rw [h4] at h6
      cases h6
      simp [Obj.isCells] at h5
  refine ⟨h.1.agree fun b hv => ?_, fun x hx => ?_⟩
  · have h1 := h.1.lt b hv
    obtain ⟨cs, h2⟩ := h.1.type hv
    exact key b h1.1 h1.2 ⟨cs, _, _, h2⟩
  · have hx := h.2 x hx
    refine ⟨hx.1, ?_⟩
    rcases hx.2 with h0 | ⟨g, cap, cur, hv, h1, hh, r⟩
    · exact .inl h0
    · exact .inr ⟨g, cap, cur, hv, h1, (key g h1 (blk_lt hh) ⟨_, _, _, hh⟩).trans hh, r⟩

/-- The lines of a text, without their ends. -/
theorem lnsA_run : ∀ (w cur r : List UInt8), 10 ∉ w → Sct.lnsA cur (w ++ r) = Sct.lnsA (cur ++ w) r
  | [], cur, r, _ => by simp
  | c :: w, cur, r, h => by
    rw [List.cons_append, Sct.lnsA, if_neg (fun e => h (by simp [e])), lnsA_run w (cur ++ [c]) r fun e => h (by simp [e])]
    simp

theorem suf_cut (a : List UInt8) : Lib.trimSuffix (a ++ [10]) [10] = a := by
  unfold Lib.trimSuffix Lib.hasSuffix
  simp
theorem suf_last {a : List UInt8} (h : 10 ∉ a) : Lib.trimSuffix a [10] = a := by
  unfold Lib.trimSuffix
  split
  · rename_i hs
    exfalso
    unfold Lib.hasSuffix at hs
    have := (List.isSuffixOf_iff_suffix.1 hs).subset (List.mem_singleton.2 rfl)
    exact h this
  · rfl

/-- A line without its end. -/
def trm (s : ByteArray) : List UInt8 := Lib.trimSuffix s.data.toList [10]

theorem lnB_lns : ∀ (f : Nat) (s : ByteArray), s.size ≤ f → (lnB f s).map trm = Sct.lns s.data.toList
  | 0, s, h => by
    have : s.data.toList = [] := List.length_eq_zero_iff.1 (by rw [← Lib.size_eq]; omega)
    rw [this]
    rfl
  | f + 1, s, h => by
    by_cases h0 : s.size = 0
    · have : s.data.toList = [] := List.length_eq_zero_iff.1 (by rw [← Lib.size_eq]; omega)
      rw [lnB, if_pos h0, this]
      rfl
    · rw [lnB, if_neg h0]
      obtain ⟨q, hq⟩ : ∃ q, Lib.indexByte s.data.toList 10 = q := ⟨_, rfl⟩
      rw [hq]
      split
      · rename_i hq0
        obtain ⟨i, rfl⟩ : ∃ i : Nat, q = i := ⟨q.toNat, by omega⟩
        obtain ⟨h1, h2⟩ := Go.Lib.indexByte_some hq
        have hi := idx_lt hq
        have hil : i < s.data.toList.length := by rw [← Lib.size_eq]; exact hi
        have hl : s.data.toList = s.data.toList.take i ++ 10 :: s.data.toList.drop (i + 1) := by
          have e := (List.take_append_drop i s.data.toList).symm
          rw [List.drop_eq_getElem_cons hil] at e
          rw [List.getElem?_eq_getElem hil] at h1
          rw [Option.some.inj h1] at e
          exact e
        have hn : 10 ∉ s.data.toList.take i := fun hm => by
          obtain ⟨j, hj⟩ := List.mem_iff_getElem?.1 hm
          have hjl : j < i := by
            rcases Nat.lt_or_ge j i with h' | h'
            · exact h'
            · rw [List.getElem?_eq_none (by rw [List.length_take]; omega)] at hj; cases hj
          rw [List.getElem?_take_of_lt hjl] at hj
          exact h2 j hjl hj
        have e1 : trm (s.extract 0 (i + 1)) = s.data.toList.take i := by
          unfold trm
          rw [ext_list, List.drop_zero, Nat.sub_zero]
          have : s.data.toList.take (i + 1) = s.data.toList.take i ++ [10] := by
            rw [List.take_add_one, h1]
            rfl
          rw [this, suf_cut]
        have e2 : (s.extract (i + 1) s.size).data.toList = s.data.toList.drop (i + 1) := by
          rw [ext_list, List.take_of_length_le (by rw [List.length_drop, ← Lib.size_eq]; omega)]
        rw [Int.toNat_natCast, List.map_cons, e1, lnB_lns f _ (by rw [ext_size]; omega), e2]
        rw [show Sct.lns s.data.toList = Sct.lnsA [] (s.data.toList.take i ++ 10 :: s.data.toList.drop (i + 1)) from congrArg (Sct.lnsA []) hl]
        rw [lnsA_run _ _ _ hn, List.nil_append, Sct.lnsA, if_pos rfl]
        rfl
      · rename_i hq0
        have hge := Go.Lib.indexByte_ge s.data.toList 10
        have hn : 10 ∉ s.data.toList := fun hm => by
          obtain ⟨j, hj⟩ := List.mem_iff_getElem?.1 hm
          exact Go.Lib.indexByte_none (show Lib.indexByte s.data.toList 10 = -1 by omega) j hj
        have hne : s.data.toList ≠ [] := fun e => h0 (by rw [Lib.size_eq, e]; rfl)
        show [trm s] = Sct.lnsA [] s.data.toList
        have := lnsA_run s.data.toList [] [] hn
        rw [List.append_nil, List.nil_append, Sct.lnsA, if_neg hne] at this
        rw [this]
        unfold trm
        rw [suf_last hn]

theorem lines_any (s : ByteArray) (w : World) : Calls Tryz.prog 31 #[.string s] w fun E w' => E = .returned (.func (.func 62) #[] #[.pointer (some ⟨w.heap.size, 0, none⟩)]) ∧ w.alloc (.cells #[.string s] 9) = w' := by
  go_enter Tryz.func31, Tryz.ntmps31
  go_wp2
  go_ret
  exact ⟨rfl, rfl⟩

end Go.Proofs.YtdlogcdpapknaaaGreatDoor
