/- Package script (layer 25): the reader's bytes, op. -/
import Derived.Test.YtgcdibglkbfjdaaGreatDoorSxd
import Derived.Test.YtgcdibglkbfjdaaGreatDoorWe
namespace Go.Proofs.YtgcdibglkbfjdaaGreatDoor
open Go.RowKit
set_option linter.unusedVariables false
set_option maxRecDepth 100000

theorem Rd.grown {w0 w w' : World} {g k : Nat} {ws : List ByteArray} {bad : Bool} (h : Rd w0 w g ws bad) (hg : w.grownBy w' (some k)) (hk : w0.heap.size ≤ k) (hn : k ≠ g) : Rd w0 w' g ws bad := by
  obtain ⟨a, c, h⟩ := h
  exact ⟨a, c, h.le, h.bel.grown hg h.bel.size (fun j hj => by cases hj; exact hk), (hg.block g h.lt (by simp; exact fun e => hn e.symm)).trans h.blk, h.len, h.adr, h.wrd⟩

/-- What a word is read as by the program: bytes, or none. -/
def BytP (w : List UInt8) (t : ByteArray) (ok : Bool) : Prop := (ok = true ∧ Wm.wd t.data.toList = w) ∨ (ok = false ∧ t = ⟨#[]⟩ ∧ ∀ u, Wm.wd u ≠ w)

set_option maxHeartbeats 1000000 in
theorem rbyts_any (w0 w : World) (g : Nat) (ws : List ByteArray) (bad : Bool) (hz : ∀ s ∈ ws, s.size ≤ 65536) (h : Rd w0 w g ws bad) :
    Calls Tryz.prog 55 #[.pointer (some ⟨g, 0, none⟩)] w fun E w' => ∃ t ok, E = .returned (.string t) ∧ BytP (ws.headD ⟨#[]⟩).data.toList t ok ∧ Rd w0 w' g ws.tail (bad || ws.isEmpty || !ok) ∧ w.grownBy w' (some g) := by
  have hsz : (ws.headD ⟨#[]⟩).size ≤ 65536 := by
    cases ws with
    | nil => decide
    | cons s r => exact hz s (by simp)
  have W := hide (rword_any w0 w g ws bad h)
  obtain ⟨s, hs⟩ : ∃ s, ws.headD ⟨#[]⟩ = s := ⟨_, rfl⟩
  obtain ⟨b1, hb1⟩ : ∃ b, (bad || ws.isEmpty) = b := ⟨_, rfl⟩
  rw [hs] at W hsz
  rw [hb1] at W
  rw [hs, hb1]
  clear hs hb1 hz h
  go_enter Tryz.func55, Tryz.ntmps55
  go_wp2_with fail
  refine W.out.mono ?_
  rintro E w1 ⟨rfl, R1, G1⟩
  clear W
  go_wp2_with fail
  refine (byts_any s w1 (by omega)).mono ?_
  rintro E w2 ⟨t, e, rfl, hB, B2⟩
  have R2 := R1.below B2
  have G2 : w.grownBy w2 (some g) := grown_trans G1 (grown_of_below B2 _)
  rcases hB with ⟨rfl, hw⟩ | ⟨rfl, ht, hw⟩
  · have Q := hide (show ∃ x ok, Ending.returned (.string t) = .returned (.string x) ∧ BytP s.data.toList x ok ∧ Rd w0 w2 g ws.tail (b1 || !ok) ∧ w.grownBy w2 (some g) from ⟨t, true, rfl, .inl ⟨rfl, hw⟩, by simpa using R2, G2⟩)
    clear R1 R2 G1 G2 B2 hw
    go_wp2
    go_ret
    exact Q.out
  · have Q := hide (show ∃ x ok, Ending.returned (.string t) = .returned (.string x) ∧ BytP s.data.toList x ok ∧ Rd w0 (w2.setCell ⟨g, 1, none⟩ (.bool true)) g ws.tail (b1 || !ok) ∧ w.grownBy (w2.setCell ⟨g, 1, none⟩ (.bool true)) (some g) from ⟨t, false, rfl, .inr ⟨rfl, Sct.ba_ext ht, hw⟩, by simpa using R2.put true, grown_trans G2 (grown_setCell _ _ _)⟩)
    obtain ⟨a3, k3, R3⟩ := R2
    have d1 := blk_cell R3.blk 1 rfl
    have f1 := blk_froz R3.blk 1
    clear R1 R3 G1 G2 B2 hw ht
    go_wp2
    go_ret
    exact Q.out

/-- The words as lists. -/
def wl (ws : List ByteArray) : List (List UInt8) := ws.map fun s => s.data.toList
theorem wl_drop (ws : List ByteArray) (k : Nat) : wl (ws.drop k) = (wl ws).drop k := by simp [wl]

def vdel (o : Bm.Ov) : Prop := o.p = false → o.v = ⟨#[]⟩

/-- What the reader's op comes to. -/
structure OpP (ws : List ByteArray) (bad : Bool) (o : Bm.Ov) (ws' : List ByteArray) (bad' : Bool) : Prop where
  suf : ∃ k, ws' = ws.drop k ∧ (ws ≠ [] → 1 ≤ k)
  snd : bad' = false → bad = false ∧ wl ws = Sct.opw [o] ++ wl ws' ∧ vdel o
  cmp : bad = false → ∀ (q : Bm.Ov) (m : List Bm.Ov), vdel q → Sct.opw (q :: m) = wl ws → bad' = false ∧ o = q ∧ wl ws' = Sct.opw m
  fit : o.k.size ≤ 65536 ∧ o.v.size ≤ 65536

theorem byt_size {w : List UInt8} {t : ByteArray} {ok : Bool} (h : BytP w t ok) (hw : w.length ≤ 65536) : t.size ≤ 65536 := by
  rcases h with ⟨_, h⟩ | ⟨_, rfl, _⟩
  · rw [Lib.size_eq]
    rw [← h] at hw
    by_cases e : t.data.toList = []
    · rw [e]; decide
    · rw [Wm.wd_full e] at hw
      have := Wm.flat_ge t.data.toList
      omega
  · decide

theorem opw_one (o : Bm.Ov) (m : List Bm.Ov) : Sct.opw (o :: m) = Sct.opw [o] ++ Sct.opw m := by simp [Sct.opw]

theorem opP_put {ws : List ByteArray} {bad ok1 ok2 : Bool} {k v : ByteArray} (hz : ∀ s ∈ ws, s.size ≤ 65536) (hs : (ws.headD ⟨#[]⟩).data.toList = [112, 117, 116]) (h1 : BytP (ws.tail.headD ⟨#[]⟩).data.toList k ok1) (h2 : BytP (ws.tail.tail.headD ⟨#[]⟩).data.toList v ok2) :
    OpP ws bad ⟨true, k, v⟩ ws.tail.tail.tail (bad || ws.isEmpty || ws.tail.isEmpty || !ok1 || ws.tail.tail.isEmpty || !ok2) := by
  have hzz : ∀ l : List ByteArray, (∀ s ∈ l, s ∈ ws) → (l.headD ⟨#[]⟩).data.toList.length ≤ 65536 := fun l hl => by
    cases l with
    | nil => decide
    | cons s r => have := hz s (hl s (by simp)); rw [Lib.size_eq] at this; exact this
  refine ⟨⟨3, by simp [← List.drop_one], fun _ => by omega⟩, fun h => ?_, fun hb q m hq e => ?_, byt_size h1 (hzz _ fun s hs => List.mem_of_mem_tail hs), byt_size h2 (hzz _ fun s hs => List.mem_of_mem_tail (List.mem_of_mem_tail hs))⟩
  · simp only [Bool.or_eq_false_iff, Bool.not_eq_false'] at h
    obtain ⟨⟨⟨⟨⟨hb, e1⟩, e2⟩, e3⟩, e4⟩, e5⟩ := h
    rcases h1 with ⟨_, w1⟩ | ⟨e, _⟩
    · rcases h2 with ⟨_, w2⟩ | ⟨e, _⟩
      · match ws, hs, e1, e2, e4, w1, w2 with
        | a :: b :: c :: r, hs, _, _, _, w1, w2 =>
          refine ⟨hb, ?_, fun e => by cases e⟩
          simp only [wl, List.map_cons, Sct.opw, if_pos, List.cons_append, List.nil_append, List.tail_cons]
          simp only [List.headD_cons, List.tail_cons] at hs w1 w2
          rw [hs, ← w1, ← w2]
          rfl
      · rw [e5] at e; cases e
    · rw [e3] at e; cases e
  · obtain ⟨p, k', v'⟩ := q
    cases p
    · exfalso
      simp only [Sct.opw, Bool.false_eq_true, if_false, List.cons_append, List.nil_append] at e
      cases ws with
      | nil => simp [wl] at e
      | cons a r =>
        simp only [wl, List.map_cons, List.cons.injEq] at e
        simp only [List.headD_cons] at hs
        rw [hs] at e
        exact absurd e.1 (by decide)
    · simp only [Sct.opw, if_pos, List.cons_append, List.nil_append] at e
      match ws, e, h1, h2 with
      | a :: b :: c :: r, e, h1, h2 =>
        simp only [wl, List.map_cons, List.cons.injEq] at e
        obtain ⟨_, e2, e3, e4⟩ := e
        simp only [List.headD_cons, List.tail_cons] at h1 h2
        rcases h1 with ⟨rfl, w1⟩ | ⟨_, _, n1⟩
        · rcases h2 with ⟨rfl, w2⟩ | ⟨_, _, n2⟩
          · have ek : k = k' := Sct.ba_ext (Wm.wd_inj (w1.trans e2.symm))
            have ev : v = v' := Sct.ba_ext (Wm.wd_inj (w2.trans e3.symm))
            exact ⟨by simp [hb], by rw [ek, ev], by rw [e4]; rfl⟩
          · exact absurd e3 (n2 _)
        · exact absurd e2 (n1 _)
      | [], e, _, _ => simp [wl] at e
      | [_], e, _, _ => simp [wl] at e
      | [_, _], e, _, _ => simp [wl] at e

theorem opP_del {ws : List ByteArray} {bad ok1 : Bool} {k : ByteArray} (hz : ∀ s ∈ ws, s.size ≤ 65536) (hs : (ws.headD ⟨#[]⟩).data.toList = [100, 101, 108]) (h1 : BytP (ws.tail.headD ⟨#[]⟩).data.toList k ok1) :
    OpP ws bad ⟨false, k, ⟨#[]⟩⟩ ws.tail.tail (bad || ws.isEmpty || ws.tail.isEmpty || !ok1) := by
  have hzz : ∀ l : List ByteArray, (∀ s ∈ l, s ∈ ws) → (l.headD ⟨#[]⟩).data.toList.length ≤ 65536 := fun l hl => by
    cases l with
    | nil => decide
    | cons s r => have := hz s (hl s (by simp)); rw [Lib.size_eq] at this; exact this
  refine ⟨⟨2, by simp [← List.drop_one], fun _ => by omega⟩, fun h => ?_, fun hb q m hq e => ?_, byt_size h1 (hzz _ fun s hs => List.mem_of_mem_tail hs), by show (ByteArray.mk #[]).size ≤ 65536; decide⟩
  · simp only [Bool.or_eq_false_iff, Bool.not_eq_false'] at h
    obtain ⟨⟨⟨hb, e1⟩, e2⟩, e3⟩ := h
    rcases h1 with ⟨_, w1⟩ | ⟨e, _⟩
    · match ws, hs, e1, e2, w1 with
      | a :: b :: r, hs, _, _, w1 =>
        refine ⟨hb, ?_, fun _ => rfl⟩
        simp only [wl, List.map_cons, Sct.opw, Bool.false_eq_true, if_false, List.cons_append, List.nil_append, List.tail_cons]
        simp only [List.headD_cons, List.tail_cons] at hs w1
        rw [hs, ← w1]
        rfl
    · rw [e3] at e; cases e
  · obtain ⟨p, k', v'⟩ := q
    cases p
    · simp only [Sct.opw, Bool.false_eq_true, if_false, List.cons_append, List.nil_append] at e
      match ws, e, h1 with
      | a :: b :: r, e, h1 =>
        simp only [wl, List.map_cons, List.cons.injEq] at e
        obtain ⟨_, e2, e4⟩ := e
        simp only [List.headD_cons, List.tail_cons] at h1
        rcases h1 with ⟨rfl, w1⟩ | ⟨_, _, n1⟩
        · have ek : k = k' := Sct.ba_ext (Wm.wd_inj (w1.trans e2.symm))
          have ev : v' = ⟨#[]⟩ := hq rfl
          exact ⟨by simp [hb], by rw [ek, ev], by rw [e4]; rfl⟩
        · exact absurd e2 (n1 _)
      | [], e, _ => simp [wl] at e
      | [_], e, _ => simp [wl] at e
    · exfalso
      simp only [Sct.opw, if_pos, List.cons_append, List.nil_append] at e
      cases ws with
      | nil => simp [wl] at e
      | cons a r =>
        simp only [wl, List.map_cons, List.cons.injEq] at e
        simp only [List.headD_cons] at hs
        rw [hs] at e
        exact absurd e.1 (by decide)

theorem opP_no {ws : List ByteArray} {bad : Bool} (h1 : (ws.headD ⟨#[]⟩).data.toList ≠ [112, 117, 116]) (h2 : (ws.headD ⟨#[]⟩).data.toList ≠ [100, 101, 108]) : OpP ws bad ⟨false, ⟨#[]⟩, ⟨#[]⟩⟩ ws.tail true := by
  refine ⟨⟨1, by simp, fun _ => by omega⟩, fun h => (by cases h), fun hb q m hq e => ?_, by show (ByteArray.mk #[]).size ≤ 65536 ∧ (ByteArray.mk #[]).size ≤ 65536; decide⟩
  exfalso
  obtain ⟨p, k', v'⟩ := q
  cases ws with
  | nil =>
    cases p <;> simp [wl, Sct.opw] at e
  | cons a r =>
    simp only [List.headD_cons] at h1 h2
    cases p
    · simp only [Sct.opw, Bool.false_eq_true, if_false, List.cons_append, List.nil_append, wl, List.map_cons, List.cons.injEq] at e
      exact h2 e.1.symm
    · simp only [Sct.opw, if_pos, List.cons_append, List.nil_append, wl, List.map_cons, List.cons.injEq] at e
      exact h1 e.1.symm

end Go.Proofs.YtgcdibglkbfjdaaGreatDoor
