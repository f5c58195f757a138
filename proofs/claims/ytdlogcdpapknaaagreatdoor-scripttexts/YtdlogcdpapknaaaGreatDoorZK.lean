/- Texts of one layer, one behind the other. -/
import Derived.Test.YtdlogcdpapknaaaGreatDoorSxd
import Derived.Test.YtdlogcdpapknaaaGreatDoorZJ
import Derived.Test.YtdlogcdpapknaaaGreatDoorZF
import Derived.Deep.LoopGhost
/- Package script (layer 25): the reader's bytes, op. -/
namespace Go.Proofs.YtdlogcdpapknaaaGreatDoor
open Go.RowKit
set_option linter.unusedVariables false
set_option maxRecDepth 100000

theorem Rd.grown {w0 w w' : World} {g k : Nat} {ws : List ByteArray} {bad : Bool} (h : Rd w0 w g ws bad) (hg : w.grownBy w' (some k)) (hk : w0.heap.size ≤ k) (hn : k ≠ g) : Rd w0 w' g ws bad := by
  obtain ⟨a, c, h⟩ := h
  exact ⟨a, c, h.le, h.bel.grown hg h.bel.size (fun j hj => by cases hj; exact hk), (hg.block g h.lt (by simp; exact fun e => hn e.symm)).trans h.blk, h.len, h.adr, h.wrd⟩

/-- What a word is read as by the program: bytes, or none. -/
def BytP (w : List UInt8) (t : ByteArray) (ok : Bool) : Prop := (ok = true ∧ Wm.wd t.data.toList = w) ∨ (ok = false ∧ t = ⟨#[]⟩ ∧ ∀ u, Wm.wd u ≠ w)

set_option maxHeartbeats 1000000 in
theorem rbyts_any (w0 w : World) (g : Nat) (ws : List ByteArray) (bad : Bool) (hz : ∀ s ∈ ws, s.size ≤ 65536) (h : Rd w0 w g ws bad) :
    Calls Tryz.prog 55 #[.pointer (some ⟨g, 0, none⟩)] w fun E w' => ∃ t ok, E = .returned (.string t) ∧ BytP (ws.headD ⟨#[]⟩).data.toList t ok ∧ Rd w0 w' g ws.tail (bad || ws.isEmpty || !ok) ∧ w.grownBy w' (some g) := by
  have hsz : (ws.headD ⟨#[]⟩).size ≤ 65536 := by
    cases ws with
    | nil => decide
    | cons s r => exact hz s (by simp)
  have W := hide (rword_any w0 w g ws bad h)
  obtain ⟨s, hs⟩ : ∃ s, ws.headD ⟨#[]⟩ = s := ⟨_, rfl⟩
  obtain ⟨b1, hb1⟩ : ∃ b, (bad || ws.isEmpty) = b := ⟨_, rfl⟩
  rw [hs] at W hsz
  rw [hb1] at W
  rw [hs, hb1]
  clear hs hb1 hz h
  go_enter Tryz.func55, Tryz.ntmps55
  go_wp2_with fail
  refine W.out.mono ?_
  rintro E w1 ⟨rfl, R1, G1⟩
  clear W
  go_wp2_with fail
  refine (byts_any s w1 (by omega)).mono ?_
  rintro E w2 ⟨t, e, rfl, hB, B2⟩
  have R2 := R1.below B2
  have G2 : w.grownBy w2 (some g) := grown_trans G1 (grown_of_below B2 _)
  rcases hB with ⟨rfl, hw⟩ | ⟨rfl, ht, hw⟩
  · have Q := hide (show ∃ x ok, Ending.returned (.string t) = .returned (.string x) ∧ BytP s.data.toList x ok ∧ Rd w0 w2 g ws.tail (b1 || !ok) ∧ w.grownBy w2 (some g) from ⟨t, true, rfl, .inl ⟨rfl, hw⟩, by simpa using R2, G2⟩)
    clear R1 R2 G1 G2 B2 hw
    go_wp2
    go_ret
    exact Q.out
  · have Q := hide (show ∃ x ok, Ending.returned (.string t) = .returned (.string x) ∧ BytP s.data.toList x ok ∧ Rd w0 (w2.setCell ⟨g, 1, none⟩ (.bool true)) g ws.tail (b1 || !ok) ∧ w.grownBy (w2.setCell ⟨g, 1, none⟩ (.bool true)) (some g) from ⟨t, false, rfl, .inr ⟨rfl, Sct.ba_ext ht, hw⟩, by simpa using R2.put true, grown_trans G2 (grown_setCell _ _ _)⟩)
    obtain ⟨a3, k3, R3⟩ := R2
    have d1 := blk_cell R3.blk 1 rfl
    have f1 := blk_froz R3.blk 1
    clear R1 R3 G1 G2 B2 hw ht
    go_wp2
    go_ret
    exact Q.out

/-- The words as lists. -/
def wl (ws : List ByteArray) : List (List UInt8) := ws.map fun s => s.data.toList
theorem wl_drop (ws : List ByteArray) (k : Nat) : wl (ws.drop k) = (wl ws).drop k := by simp [wl]

def vdel (o : Bm.Ov) : Prop := o.p = false → o.v = ⟨#[]⟩

/-- What the reader's op comes to. -/
structure OpP (ws : List ByteArray) (bad : Bool) (o : Bm.Ov) (ws' : List ByteArray) (bad' : Bool) : Prop where
  suf : ∃ k, ws' = ws.drop k ∧ (ws ≠ [] → 1 ≤ k)
  snd : bad' = false → bad = false ∧ wl ws = Sct.opw [o] ++ wl ws' ∧ vdel o
  cmp : bad = false → ∀ (q : Bm.Ov) (m : List Bm.Ov), vdel q → Sct.opw (q :: m) = wl ws → bad' = false ∧ o = q ∧ wl ws' = Sct.opw m
  fit : o.k.size ≤ 65536 ∧ o.v.size ≤ 65536

theorem byt_size {w : List UInt8} {t : ByteArray} {ok : Bool} (h : BytP w t ok) (hw : w.length ≤ 65536) : t.size ≤ 65536 := by
  rcases h with ⟨_, h⟩ | ⟨_, rfl, _⟩
  · rw [Lib.size_eq]
    rw [← h] at hw
    by_cases e : t.data.toList = []
    · rw [e]; decide
    · rw [Wm.wd_full e] at hw
      have := Wm.flat_ge t.data.toList
      omega
  · decide

theorem opw_one (o : Bm.Ov) (m : List Bm.Ov) : Sct.opw (o :: m) = Sct.opw [o] ++ Sct.opw m := by simp [Sct.opw]

theorem opP_put {ws : List ByteArray} {bad ok1 ok2 : Bool} {k v : ByteArray} (hz : ∀ s ∈ ws, s.size ≤ 65536) (hs : (ws.headD ⟨#[]⟩).data.toList = [112, 117, 116]) (h1 : BytP (ws.tail.headD ⟨#[]⟩).data.toList k ok1) (h2 : BytP (ws.tail.tail.headD ⟨#[]⟩).data.toList v ok2) :
    OpP ws bad ⟨true, k, v⟩ ws.tail.tail.tail (bad || ws.isEmpty || ws.tail.isEmpty || !ok1 || ws.tail.tail.isEmpty || !ok2) := by
  have hzz : ∀ l : List ByteArray, (∀ s ∈ l, s ∈ ws) → (l.headD ⟨#[]⟩).data.toList.length ≤ 65536 := fun l hl => by
    cases l with
    | nil => decide
    | cons s r => have := hz s (hl s (by simp)); rw [Lib.size_eq] at this; exact this
  refine ⟨⟨3, by simp [← List.drop_one], fun _ => by omega⟩, fun h => ?_, fun hb q m hq e => ?_, byt_size h1 (hzz _ fun s hs => List.mem_of_mem_tail hs), byt_size h2 (hzz _ fun s hs => List.mem_of_mem_tail (List.mem_of_mem_tail hs))⟩
  · simp only [Bool.or_eq_false_iff, Bool.not_eq_false'] at h
    obtain ⟨⟨⟨⟨⟨hb, e1⟩, e2⟩, e3⟩, e4⟩, e5⟩ := h
    rcases h1 with ⟨_, w1⟩ | ⟨e, _⟩
    · rcases h2 with ⟨_, w2⟩ | ⟨e, _⟩
      · match ws, hs, e1, e2, e4, w1, w2 with
        | a :: b :: c :: r, hs, _, _, _, w1, w2 =>
          refine ⟨hb, ?_, fun e => by cases e⟩
          simp only [wl, List.map_cons, Sct.opw, if_pos, List.cons_append, List.nil_append, List.tail_cons]
          simp only [List.headD_cons, List.tail_cons] at hs w1 w2
          rw [hs, ← w1, ← w2]
          rfl
      · rw [e5] at e; cases e
    · rw [e3] at e; cases e
  · obtain ⟨p, k', v'⟩ := q
    cases p
    · exfalso
      simp only [Sct.opw, Bool.false_eq_true, if_false, List.cons_append, List.nil_append] at e
      cases ws with
      | nil => simp [wl] at e
      | cons a r =>
        simp only [wl, List.map_cons, List.cons.injEq] at e
        simp only [List.headD_cons] at hs
        rw [hs] at e
        exact absurd e.1 (by decide)
    · simp only [Sct.opw, if_pos, List.cons_append, List.nil_append] at e
      match ws, e, h1, h2 with
      | a :: b :: c :: r, e, h1, h2 =>
        simp only [wl, List.map_cons, List.cons.injEq] at e
        obtain ⟨_, e2, e3, e4⟩ := e
        simp only [List.headD_cons, List.tail_cons] at h1 h2
        rcases h1 with ⟨rfl, w1⟩ | ⟨_, _, n1⟩
        · rcases h2 with ⟨rfl, w2⟩ | ⟨_, _, n2⟩
          · have ek : k = k' := Sct.ba_ext (Wm.wd_inj (w1.trans e2.symm))
            have ev : v = v' := Sct.ba_ext (Wm.wd_inj (w2.trans e3.symm))
            exact ⟨by simp [hb], by rw [ek, ev], by rw [e4]; rfl⟩
          · exact absurd e3 (n2 _)
        · exact absurd e2 (n1 _)
      | [], e, _, _ => simp [wl] at e
      | [_], e, _, _ => simp [wl] at e
      | [_, _], e, _, _ => simp [wl] at e

theorem opP_del {ws : List ByteArray} {bad ok1 : Bool} {k : ByteArray} (hz : ∀ s ∈ ws, s.size ≤ 65536) (hs : (ws.headD ⟨#[]⟩).data.toList = [100, 101, 108]) (h1 : BytP (ws.tail.headD ⟨#[]⟩).data.toList k ok1) :
    OpP ws bad ⟨false, k, ⟨#[]⟩⟩ ws.tail.tail (bad || ws.isEmpty || ws.tail.isEmpty || !ok1) := by
  have hzz : ∀ l : List ByteArray, (∀ s ∈ l, s ∈ ws) → (l.headD ⟨#[]⟩).data.toList.length ≤ 65536 := fun l hl => by
    cases l with
    | nil => decide
    | cons s r => have := hz s (hl s (by simp)); rw [Lib.size_eq] at this; exact this
  refine ⟨⟨2, by simp [← List.drop_one], fun _ => by omega⟩, fun h => ?_, fun hb q m hq e => ?_, byt_size h1 (hzz _ fun s hs => List.mem_of_mem_tail hs), by show (ByteArray.mk #[]).size ≤ 65536; decide⟩
  · simp only [Bool.or_eq_false_iff, Bool.not_eq_false'] at h
    obtain ⟨⟨⟨hb, e1⟩, e2⟩, e3⟩ := h
    rcases h1 with ⟨_, w1⟩ | ⟨e, _⟩
    · match ws, hs, e1, e2, w1 with
      | a :: b :: r, hs, _, _, w1 =>
        refine ⟨hb, ?_, fun _ => rfl⟩
        simp only [wl, List.map_cons, Sct.opw, Bool.false_eq_true, if_false, List.cons_append, List.nil_append, List.tail_cons]
        simp only [List.headD_cons, List.tail_cons] at hs w1
        rw [hs, ← w1]
        rfl
    · rw [e3] at e; cases e
  · obtain ⟨p, k', v'⟩ := q
    cases p
    · simp only [Sct.opw, Bool.false_eq_true, if_false, List.cons_append, List.nil_append] at e
      match ws, e, h1 with
      | a :: b :: r, e, h1 =>
        simp only [wl, List.map_cons, List.cons.injEq] at e
        obtain ⟨_, e2, e4⟩ := e
        simp only [List.headD_cons, List.tail_cons] at h1
        rcases h1 with ⟨rfl, w1⟩ | ⟨_, _, n1⟩
        · have ek : k = k' := Sct.ba_ext (Wm.wd_inj (w1.trans e2.symm))
          have ev : v' = ⟨#[]⟩ := hq rfl
          exact ⟨by simp [hb], by rw [ek, ev], by rw [e4]; rfl⟩
        · exact absurd e2 (n1 _)
      | [], e, _ => simp [wl] at e
      | [_], e, _ => simp [wl] at e
    · exfalso
      simp only [Sct.opw, if_pos, List.cons_append, List.nil_append] at e
      cases ws with
      | nil => simp [wl] at e
      | cons a r =>
        simp only [wl, List.map_cons, List.cons.injEq] at e
        simp only [List.headD_cons] at hs
        rw [hs] at e
        exact absurd e.1 (by decide)

theorem opP_no {ws : List ByteArray} {bad : Bool} (h1 : (ws.headD ⟨#[]⟩).data.toList ≠ [112, 117, 116]) (h2 : (ws.headD ⟨#[]⟩).data.toList ≠ [100, 101, 108]) : OpP ws bad ⟨false, ⟨#[]⟩, ⟨#[]⟩⟩ ws.tail true := by
  refine ⟨⟨1, by simp, fun _ => by omega⟩, fun h => (by cases h), fun hb q m hq e => ?_, by show (ByteArray.mk #[]).size ≤ 65536 ∧ (ByteArray.mk #[]).size ≤ 65536; decide⟩
  exfalso
  obtain ⟨p, k', v'⟩ := q
  cases ws with
  | nil =>
    cases p <;> simp [wl, Sct.opw] at e
  | cons a r =>
    simp only [List.headD_cons] at h1 h2
    cases p
    · simp only [Sct.opw, Bool.false_eq_true, if_false, List.cons_append, List.nil_append, wl, List.map_cons, List.cons.injEq] at e
      exact h2 e.1.symm
    · simp only [Sct.opw, if_pos, List.cons_append, List.nil_append, wl, List.map_cons, List.cons.injEq] at e
      exact h1 e.1.symm

end Go.Proofs.YtdlogcdpapknaaaGreatDoor

/- Package script (layer 25): the reader's op, over the program. -/
namespace Go.Proofs.YtdlogcdpapknaaaGreatDoor
open Go.RowKit
set_option linter.unusedVariables false
set_option maxRecDepth 100000

set_option maxHeartbeats 2000000 in
theorem rop_any (w0 w : World) (g : Nat) (ws : List ByteArray) (bad : Bool) (hz : ∀ s ∈ ws, s.size ≤ 65536) (h : Rd w0 w g ws bad) :
    Calls Tryz.prog 84 #[.pointer (some ⟨g, 0, none⟩)] w fun E w' => ∃ o ws' bad', E = .returned (opv o.p o.k o.v) ∧ OpP ws bad o ws' bad' ∧ Rd w0 w' g ws' bad' ∧ w.grownBy w' (some g) := by
  obtain ⟨W, hW, szW, belW, blkW⟩ := blk_step w #[.bool false, .string ⟨#[]⟩, .string ⟨#[]⟩] 77
  have hz1 : ∀ s ∈ ws.tail, s.size ≤ 65536 := fun s hs => hz s (List.mem_of_mem_tail hs)
  have hz2 : ∀ s ∈ ws.tail.tail, s.size ≤ 65536 := fun s hs => hz1 s (List.mem_of_mem_tail hs)
  have hgl := h.lt
  have hw0 := h.bel.size
  have hW1 := hide (rword_any w0 W g ws bad (h.below belW))
  obtain ⟨s, hs⟩ : ∃ s, ws.headD ⟨#[]⟩ = s := ⟨_, rfl⟩
  rw [hs] at hW1
  have G0 := grown_of_below belW (some g)
  clear h
  cases hp : (s.toList == [112, 117, 116])
  · cases hd : (s.toList == [100, 101, 108])
    · have O := opP_no (ws := ws) (bad := bad) (by rw [hs, ← Lib.toList_data]; exact beq_eq_false_iff_ne.1 hp) (by rw [hs, ← Lib.toList_data]; exact beq_eq_false_iff_ne.1 hd)
      go_enter Tryz.func84, Tryz.ntmps84
      go_wp2_with fail
      refine hW1.out.mono ?_
      rintro E w1 ⟨rfl, R1, G1⟩
      clear hW1
      have B1 := (G1.block w.heap.size (by omega) (by simp; omega)).trans blkW
      have R2 := R1.put true
      have G2 := grown_trans G1 (grown_setCell w1 ⟨g, 1, none⟩ (.bool true))
      obtain ⟨a3, k3, R1⟩ := R1
      have d1 := blk_cell R1.blk 1 rfl
      have f1 := blk_froz R1.blk 1
      obtain ⟨V, hV⟩ : ∃ V, w1.setCell ⟨g, 1, none⟩ (.bool true) = V := ⟨_, rfl⟩
      rw [hV] at R2 G2
      have B2 := (G2.block w.heap.size (by omega) (by simp; omega)).trans blkW
      obtain ⟨V', hV', bV', gV', ⟨a0, a1, a2⟩, ⟨f0, f1', f2⟩, ⟨z0, z1, z2⟩⟩ := res_step B2 (.bool false) (.string ⟨#[]⟩) (.string ⟨#[]⟩)
      have Q := hide (show ∃ o ws' bad', Ending.returned (.agg #[.bool false, .string ⟨#[]⟩, .string ⟨#[]⟩]) = .returned (opv o.p o.k o.v) ∧ OpP ws bad o ws' bad' ∧ Rd w0 V' g ws' bad' ∧ w.grownBy V' (some g) from ⟨_, _, _, rfl, O, R2.grown gV' hw0 (by omega), grown_fresh (grown_trans G0 G2) gV' (Nat.le_refl _)⟩)
      clear R1 R2 G1 G2 B1 B2 O bV' gV' hz hz1 hz2
      go_wp2
      refine bodyPost_ret (v := .agg #[.bool false, .string ⟨#[]⟩, .string ⟨#[]⟩]) (by simp [results, Tryz.results84, go_sem, z0, z1, z2]) rfl ?_
      exact Q.out
    · have hsd : (ws.headD ⟨#[]⟩).data.toList = [100, 101, 108] := by rw [hs, ← Lib.toList_data]; exact beq_iff_eq.1 hd
      go_enter Tryz.func84, Tryz.ntmps84
      go_wp2_with fail
      refine hW1.out.mono ?_
      rintro E w1 ⟨rfl, R1, G1⟩
      clear hW1
      go_wp2_with fail
      refine (rbyts_any w0 w1 g _ _ hz1 R1).mono ?_
      rintro E w2 ⟨k, ok1, rfl, K1, R2, G2⟩
      have G3 := grown_trans G1 G2
      have B2 := (G3.block w.heap.size (by omega) (by simp; omega)).trans blkW
      have O := opP_del (bad := bad) hz hsd K1
      obtain ⟨V', hV', bV', gV', ⟨a0, a1, a2⟩, ⟨f0, f1, f2⟩, ⟨z0, z1, z2⟩⟩ := res_step B2 (.bool false) (.string k) (.string ⟨#[]⟩)
      have Q := hide (show ∃ o ws' bad', Ending.returned (.agg #[.bool false, .string k, .string ⟨#[]⟩]) = .returned (opv o.p o.k o.v) ∧ OpP ws bad o ws' bad' ∧ Rd w0 V' g ws' bad' ∧ w.grownBy V' (some g) from ⟨_, _, _, rfl, O, R2.grown gV' hw0 (by omega), grown_fresh (grown_trans G0 G3) gV' (Nat.le_refl _)⟩)
      clear R1 R2 G1 G2 G3 B2 O bV' gV' hz hz1 hz2 K1 hsd
      go_wp2
      refine bodyPost_ret (v := .agg #[.bool false, .string k, .string ⟨#[]⟩]) (by simp [results, Tryz.results84, go_sem, z0, z1, z2]) rfl ?_
      exact Q.out
  · have hsd : (ws.headD ⟨#[]⟩).data.toList = [112, 117, 116] := by rw [hs, ← Lib.toList_data]; exact beq_iff_eq.1 hp
    go_enter Tryz.func84, Tryz.ntmps84
    go_wp2_with fail
    refine hW1.out.mono ?_
    rintro E w1 ⟨rfl, R1, G1⟩
    clear hW1
    go_wp2_with fail
    refine (rbyts_any w0 w1 g _ _ hz1 R1).mono ?_
    rintro E w2 ⟨k, ok1, rfl, K1, R2, G2⟩
    go_wp2_with fail
    refine (rbyts_any w0 w2 g _ _ hz2 R2).mono ?_
    rintro E w3 ⟨v, ok2, rfl, K2, R3, G3⟩
    have G4 := grown_trans (grown_trans G1 G2) G3
    have B2 := (G4.block w.heap.size (by omega) (by simp; omega)).trans blkW
    have O := opP_put (bad := bad) hz hsd K1 K2
    obtain ⟨V', hV', bV', gV', ⟨a0, a1, a2⟩, ⟨f0, f1, f2⟩, ⟨z0, z1, z2⟩⟩ := res_step B2 (.bool true) (.string k) (.string v)
    have Q := hide (show ∃ o ws' bad', Ending.returned (.agg #[.bool true, .string k, .string v]) = .returned (opv o.p o.k o.v) ∧ OpP ws bad o ws' bad' ∧ Rd w0 V' g ws' bad' ∧ w.grownBy V' (some g) from ⟨_, _, _, rfl, O, R3.grown gV' hw0 (by omega), grown_fresh (grown_trans G0 G4) gV' (Nat.le_refl _)⟩)
    clear R1 R2 R3 G1 G2 G3 G4 B2 O bV' gV' hz hz1 hz2 K1 K2 hsd
    go_wp2
    refine bodyPost_ret (v := .agg #[.bool true, .string k, .string v]) (by simp [results, Tryz.results84, go_sem, z0, z1, z2]) rfl ?_
    exact Q.out

end Go.Proofs.YtdlogcdpapknaaaGreatDoor

/- Package script (layer 25): the reader's ops. -/
namespace Go.Proofs.YtdlogcdpapknaaaGreatDoor
open Go.RowKit
set_option linter.unusedVariables false
set_option maxRecDepth 100000

/-- Ops that were read, some words left. -/
structure OpL (ws0 : List ByteArray) (bad0 : Bool) (l : List Bm.Ov) (ws : List ByteArray) (bad : Bool) : Prop where
  suf : ∃ k, ws = ws0.drop k
  len : l.length + ws.length ≤ ws0.length
  snd : bad = false → bad0 = false ∧ wl ws0 = Sct.opw l ++ wl ws ∧ ∀ o ∈ l, vdel o
  cmp : bad0 = false → ∀ m : List Bm.Ov, (∀ o ∈ m, vdel o) → Sct.opw m = wl ws0 → ∃ m', m = l ++ m' ∧ Sct.opw m' = wl ws ∧ bad = false
  fit : ∀ o ∈ l, o.k.size ≤ 65536 ∧ o.v.size ≤ 65536

theorem OpL.start (ws0 : List ByteArray) (bad0 : Bool) : OpL ws0 bad0 [] ws0 bad0 :=
  ⟨⟨0, rfl⟩, by simp, fun h => ⟨h, rfl, fun o ho => by simp at ho⟩, fun h m _ e => ⟨m, rfl, e, h⟩, fun o ho => by simp at ho⟩

theorem opw_app : ∀ (l m : List Bm.Ov), Sct.opw (l ++ m) = Sct.opw l ++ Sct.opw m
  | [], m => rfl
  | o :: l, m => by rw [List.cons_append, opw_one, opw_one o l, opw_app l m, List.append_assoc]

theorem opw_nil {m : List Bm.Ov} (h : Sct.opw m = []) : m = [] := by
  cases m with
  | nil => rfl
  | cons o r =>
    exfalso
    simp only [Sct.opw] at h
    split at h <;> simp at h

theorem OpL.step {ws0 ws ws' : List ByteArray} {bad0 bad' : Bool} {l : List Bm.Ov} {o : Bm.Ov} (h : OpL ws0 bad0 l ws false) (hn : ws ≠ []) (k : OpP ws false o ws' bad') : OpL ws0 bad0 (l ++ [o]) ws' bad' := by
  obtain ⟨⟨i, hi⟩, h1, h2, h3, h4⟩ := h
  obtain ⟨⟨j, hj, hj1⟩, k2, k3, k4⟩ := k
  have hj1 := hj1 hn
  have hwl : 0 < ws.length := List.length_pos_iff.2 hn
  refine ⟨⟨i + j, by rw [hj, hi, List.drop_drop]⟩, ?_, fun e => ?_, fun e m hm hw => ?_, fun q hq => ?_⟩
  · rw [hj, List.length_append, List.length_drop]
    simp only [List.length_cons, List.length_nil]
    omega
  · obtain ⟨e0, e1, e2⟩ := h2 rfl
    obtain ⟨_, k5, k6⟩ := k2 e
    refine ⟨e0, by rw [e1, k5, opw_app, List.append_assoc], fun q hq => ?_⟩
    rcases List.mem_append.1 hq with hq | hq
    · exact e2 q hq
    · rw [List.mem_singleton.1 hq]; exact k6
  · obtain ⟨m', hm', hw', _⟩ := h3 e m hm hw
    cases m' with
    | nil =>
      exfalso
      have : wl ws = [] := hw'.symm
      simp [wl] at this
      exact hn this
    | cons q r =>
      obtain ⟨b, rfl, c⟩ := k3 rfl q r (hm q (by rw [hm']; simp)) hw'
      exact ⟨r, by rw [hm']; simp, c.symm, b⟩
  · rcases List.mem_append.1 hq with hq | hq
    · exact h4 q hq
    · rw [List.mem_singleton.1 hq]; exact k4

/-- What the reader's ops comes to. -/
structure OpsP (ws0 : List ByteArray) (bad0 : Bool) (l : List Bm.Ov) (ws : List ByteArray) (bad : Bool) : Prop where
  suf : ∃ k, ws = ws0.drop k
  len : l.length ≤ ws0.length
  snd : bad = false → bad0 = false ∧ ws = [] ∧ wl ws0 = Sct.opw l
  cmp : bad0 = false → ∀ m : List Bm.Ov, (∀ o ∈ m, vdel o) → Sct.opw m = wl ws0 → l = m ∧ ws = [] ∧ bad = false
  fit : ∀ o ∈ l, o.k.size ≤ 65536 ∧ o.v.size ≤ 65536

theorem OpL.done {ws0 ws : List ByteArray} {bad0 bad : Bool} {l : List Bm.Ov} (h : OpL ws0 bad0 l ws bad) (he : ws = [] ∨ bad = true) : OpsP ws0 bad0 l ws bad := by
  obtain ⟨h0, h1, h2, h3, h4⟩ := h
  refine ⟨h0, by omega, fun e => ?_, fun e m hm hw => ?_, h4⟩
  · obtain ⟨a, b, c⟩ := h2 e
    rcases he with rfl | he
    · exact ⟨a, rfl, by simpa [wl] using b⟩
    · rw [e] at he; cases he
  · obtain ⟨m', hm', hw', hb⟩ := h3 e m hm hw
    rcases he with rfl | he
    · have := opw_nil (m := m') (by rw [hw']; rfl)
      subst this
      exact ⟨by rw [hm']; simp, rfl, hb⟩
    · rw [hb] at he; cases he

theorem Rd.belown {w0 w w' : World} {g n : Nat} {ws : List ByteArray} {bad : Bool} (h : Rd w0 w g ws bad) (hb : Below n w w') (h0 : w0.heap.size ≤ n) (hg : g < n) : Rd w0 w' g ws bad := by
  obtain ⟨a, c, h⟩ := h
  exact ⟨a, c, h.le, h.bel.trans (hb.mono h0), (hb.block g hg).trans h.blk, h.len, h.adr, h.wrd⟩

theorem grown_belown {w w1 w2 : World} {row : Option Nat} (h : w.grownBy w1 row) (b : Below w.heap.size w1 w2) : w.grownBy w2 row :=
  ⟨b.os.trans h.os, b.tape.trans h.tape, b.output.trans h.output, Nat.le_trans h.size b.size, fun i hi hne => (b.block i hi).trans (h.block i hi hne)⟩

set_option maxHeartbeats 2000000 in
theorem rops_any (w0 w : World) (g : Nat) (ws0 : List ByteArray) (bad0 : Bool) (hz : ∀ s ∈ ws0, s.size ≤ 65536) (hl : ws0.length ≤ 65536) (h : Rd w0 w g ws0 bad0) :
    Calls Tryz.prog 56 #[.pointer (some ⟨g, 0, none⟩)] w fun E w' => ∃ v l ws' bad', E = .returned v ∧ OwnO 77 w.heap.size w' v l ∧ OpsP ws0 bad0 l ws' bad' ∧ Rd w0 w' g ws' bad' ∧ w.grownBy w' (some g) := by
  have hgl := h.lt
  have hw0 := h.bel.size
  have HZ := hide hz
  clear hz
  go_enter Tryz.func56, Tryz.ntmps56
  go_wp2
  go_loopg [3] ws0.length (fun gf lv wr => ∃ (l : List Bm.Ov) (ws : List ByteArray) (bad : Bool), OwnO 77 w.heap.size wr lv l ∧ Rd w0 wr g ws bad ∧ w.grownBy wr (some g) ∧ Hid (OpL ws0 bad0 l ws bad) ∧ ws.length ≤ gf)
  case atStart => exact ⟨[], ws0, bad0, OwnO.nil _ _ _, h, World.grownBy.refl _ _, hide (OpL.start _ _), Nat.le_refl _⟩
  case round =>
    obtain ⟨l, ws, bad, own, R, G, L, hgf⟩ := hrel
    have HR := hide R
    have hsg := G.size
    obtain ⟨a3, k3, R3⟩ := R
    have d0 := blk_cell R3.blk 0 rfl
    have d1 := blk_cell R3.blk 1 rfl
    clear R3
    by_cases hn : ws = []
    · have P := hide (L.out.done (.inl hn))
      have hz : (ws.length : Int) = 0 := by rw [hn]; rfl
      clear hn L
      go_wp2
      go_ret
      exact ⟨_, l, ws, bad, rfl, own, P.out, HR.out, G⟩
    have hpos : (0 : Int) < ws.length := by have := List.length_pos_iff.2 hn; omega
    cases hb : bad
    · rw [hb] at L HR d1
      have hzw : ∀ s ∈ ws, s.size ≤ 65536 := by
        obtain ⟨k, hk⟩ := L.out.suf
        rw [hk]
        exact fun s hs => HZ.out s (List.mem_of_mem_drop hs)
      have hlen := L.out.len
      have HN := hide hn
      obtain ⟨g', rfl⟩ : ∃ g', gk = g' + 1 := ⟨gk - 1, by omega⟩
      clear hn
      go_wp2_with fail
      refine (rop_any w0 wr g ws false hzw HR.out).mono ?_
      rintro E w1 ⟨o, ws', bad', rfl, O1, R1, G1⟩
      have L1 := hide (L.out.step HN.out O1)
      have hls : ws'.length < ws.length := by
        obtain ⟨k, hk, h1⟩ := O1.suf
        have := h1 HN.out
        have := List.length_pos_iff.2 HN.out
        rw [hk, List.length_drop]
        omega
      have own1 := own.kept G1 (by
        rcases hv : Value.ownBlock _ with _ | b
        · exact .inl rfl
        · refine .inr fun e => ?_
          have := own.block b hv
          simp at e
          omega)
      have s1 := G1.size
      unfold opv
      obtain ⟨w2, hw2, sz2, b2, own2⟩ := ops_step 77 w1 #[.bool o.p, .string o.k, .string o.v] 1 [o] rfl rfl (by simp [maxLen])
      have own3 := own1.below b2
      have R2 := R1.below b2
      have G2 : w.grownBy w2 (some g) := grown_trans (grown_trans G G1) (grown_of_below b2 _)
      clear own own1 R1 G1 O1 L HZ
      go_wp2_with (at_builtin; refine wpList_append_ops rfl (.tmp 17) (.tmp 20) 22 rfl 77 w.heap.size Tryz.underlying22 Tryz.info77 _ l rfl own3 _ [o] rfl own2.is (by simp; omega) (by omega) ?_)
      intro v3 w3 own4 b3 g3
      have R3 := R2.belown b3 hw0 hgl
      have G3 : w.grownBy w3 (some g) := grown_belown G2 b3
      clear R2 G2 b3 g3 own2 own3 b2
      go_wp2
      go_roundg g'
      case measure => omega
      case rel => exact ⟨_, _, _, own4, R3, G3, L1, by omega⟩
    · have P := hide (L.out.done (.inr hb))
      rw [hb] at P HR d1
      clear hn L
      go_wp2
      go_ret
      exact ⟨_, l, ws, true, rfl, own, P.out, HR.out, G⟩

end Go.Proofs.YtdlogcdpapknaaaGreatDoor

/- Package script (layer 25): what the reader's act comes to, kind by kind. -/
namespace Go.Proofs.YtdlogcdpapknaaaGreatDoor
open Go.RowKit
set_option linter.unusedVariables false
set_option maxRecDepth 100000

/-- A number was read. -/
structure NumS (ws : List ByteArray) (bad : Bool) (x : Int) (ws' : List ByteArray) (bad' : Bool) : Prop where
  snd : bad' = false → 0 ≤ x → x ≤ 999999999 → bad = false ∧ wl ws = Sct.dg x.toNat :: wl ws'
  cmp : bad = false → ∀ (m : Nat) R, m ≤ 999999999 → Sct.dg m :: R = wl ws → bad' = false ∧ x = m ∧ wl ws' = R

theorem numS_of {ws : List ByteArray} {bad ok : Bool} {x : Int} (h : NumP (ws.headD ⟨#[]⟩).data.toList x ok) : NumS ws bad x ws.tail (bad || ws.isEmpty || !ok) := by
  obtain ⟨_, h1, h2⟩ := h
  constructor
  · intro e h3 h4
    simp only [Bool.or_eq_false_iff, Bool.not_eq_false'] at e
    obtain ⟨⟨e1, e2⟩, e3⟩ := e
    cases ws with
    | nil => cases e2
    | cons a r => exact ⟨e1, by rw [h1 e3 h3 h4]; rfl⟩
  · intro e m R hm hw
    cases ws with
    | nil => simp [wl] at hw
    | cons a r =>
      simp only [wl, List.map_cons, List.cons.injEq] at hw
      obtain ⟨k1, k2⟩ := h2 m hm hw.1
      exact ⟨by simp [e, k1], k2, hw.2.symm⟩

/-- Bytes were read. -/
structure BytS (ws : List ByteArray) (bad : Bool) (t : ByteArray) (ws' : List ByteArray) (bad' : Bool) : Prop where
  snd : bad' = false → bad = false ∧ wl ws = Wm.wd t.data.toList :: wl ws'
  cmp : bad = false → ∀ (u : ByteArray) R, Wm.wd u.data.toList :: R = wl ws → bad' = false ∧ t = u ∧ wl ws' = R

theorem bytS_of {ws : List ByteArray} {bad ok : Bool} {t : ByteArray} (h : BytP (ws.headD ⟨#[]⟩).data.toList t ok) : BytS ws bad t ws.tail (bad || ws.isEmpty || !ok) := by
  constructor
  · intro e
    simp only [Bool.or_eq_false_iff, Bool.not_eq_false'] at e
    obtain ⟨⟨e1, e2⟩, e3⟩ := e
    cases ws with
    | nil => cases e2
    | cons a r =>
      rcases h with ⟨_, h⟩ | ⟨h, _⟩
      · exact ⟨e1, by rw [h]; rfl⟩
      · rw [e3] at h; cases h
  · intro e u R hw
    cases ws with
    | nil => simp [wl] at hw
    | cons a r =>
      simp only [wl, List.map_cons, List.cons.injEq] at hw
      rcases h with ⟨rfl, h⟩ | ⟨_, _, h⟩
      · exact ⟨by simp [e], Sct.ba_ext (Wm.wd_inj (h.trans hw.1.symm)), hw.2.symm⟩
      · exact absurd hw.1 (h _)

/-- What the reader's act comes to. -/
structure ActP (ws : List ByteArray) (a : Sct.Av) (ws' : List ByteArray) (bad' : Bool) : Prop where
  snd : bad' = false → ws' = [] → Sct.Ok a → Sct.txt a = wl ws
  cmp : ∀ b, Sct.Ok b → Sct.txt b = wl ws → a = b ∧ ws' = [] ∧ bad' = false
  ops : (∀ o ∈ a.ops, o.k.size ≤ 65536 ∧ o.v.size ≤ 65536) ∧ a.ops.length ≤ 65536
  key : a.key.size ≤ 65536

theorem wl_nil {ws : List ByteArray} (h : wl ws = []) : ws = [] := by simpa [wl] using h
theorem ok_del {b : Sct.Av} (h : Sct.Ok b) : ∀ o ∈ b.ops, vdel o := by
  have := h.ops
  split at this
  · exact fun o ho => Sct.chk_del this o ho
  · rw [this]; exact fun o ho => by simp at ho

/-- The kind's word. -/
theorem act_kind {ws : List ByteArray} {b : Sct.Av} (hb : Sct.Ok b) (hw : Sct.txt b = wl ws) : b.k = kd (ws.headD ⟨#[]⟩).data.toList ∧ Sct.tail b = wl ws.tail := by
  cases ws with
  | nil => simp [Sct.txt, wl] at hw
  | cons s r =>
    simp only [Sct.txt, wl, List.map_cons, List.cons.injEq] at hw
    refine ⟨?_, hw.2⟩
    show b.k = kd s.data.toList
    rw [← hw.1, kd_nm hb.k]
theorem act_word {ws : List ByteArray} (hne : ws ≠ []) (hk : 1 ≤ kd (ws.headD ⟨#[]⟩).data.toList) : wl ws = Sct.nm (kd (ws.headD ⟨#[]⟩).data.toList) :: wl ws.tail := by
  cases ws with
  | nil => exact absurd rfl hne
  | cons s r =>
    show s.data.toList :: wl r = _
    rw [show (s :: r).headD ⟨#[]⟩ = s from rfl] at hk ⊢
    rw [← nm_kd hk]
    rfl

theorem ext_av {a b : Sct.Av} (h1 : a.k = b.k) (h2 : a.u = b.u) (h3 : a.n = b.n) (h4 : a.t = b.t) (h5 : a.key = b.key) (h6 : a.ops = b.ops) : a = b := by
  cases a; cases b
  simp only at h1 h2 h3 h4 h5 h6
  subst h1 h2 h3 h4 h5 h6
  rfl

theorem actP_0 {ws : List ByteArray}   (hne : ws ≠ []) (hkd : kd (ws.headD ⟨#[]⟩).data.toList = 0)  : ActP ws ⟨0, 0, 0, 0, ⟨#[]⟩, []⟩ ws.tail false := by
  refine ⟨fun _ _ o => by have := o.k; simp at this, fun b hb hw => ?_, ⟨fun o ho => by simp at ho, by simp⟩, by show (ByteArray.mk #[]).size ≤ 65536; decide⟩
  have := (act_kind hb hw).1
  have := hb.k
  omega

theorem actP_1 {ws w2 w3 : List ByteArray} {b2 b3 : Bool} {u : Int} {ops : List Bm.Ov} (hne : ws ≠ []) (hkd : kd (ws.headD ⟨#[]⟩).data.toList = 1) (hu : NumS ws.tail false u w2 b2) (ho : OpsP w2 b2 ops w3 b3) (hl : w2.length ≤ 65536) : ActP ws ⟨1, u, 0, 0, ⟨#[]⟩, ops⟩ w3 b3 := by
  refine ⟨fun e0 e1 o => ?_, fun b hb hw => ?_, ⟨ho.fit, Nat.le_trans ho.len hl⟩, by show (ByteArray.mk #[]).size ≤ 65536; decide⟩
  · have hw := act_word hne (by omega)
    rw [hkd] at hw
    have u0 := o.u
    simp only at u0
    obtain ⟨f2, _, g2⟩ := ho.snd e0
    obtain ⟨f1, g1⟩ := hu.snd f2 (by omega) (by omega)
    rw [hw, g1, g2]
    show _ :: _ :: ([] ++ ([] ++ ([] ++ Sct.opw ops))) = _
    rfl
  · obtain ⟨k1, k2⟩ := act_kind hb hw
    rw [hkd] at k1
    have hd := ok_del hb
    obtain ⟨k, u1, n1, t1, key1, ops1⟩ := b
    have k1 : k = 1 := k1
    subst k1
    have oU := hb.u; have oN := hb.n; have oT := hb.t
    have zn : n1 = 0 := hb.n0 (show Sct.hn 1 = false by decide)
    subst zn
    have zt : t1 = 0 := hb.t0 (show Sct.ht 1 = false by decide)
    subst zt
    have zk : key1 = ⟨#[]⟩ := hb.key
    subst zk
    simp only at oU oN oT hd
    have k2 : Sct.dg u1.toNat :: Sct.opw ops1 = wl ws.tail := k2
    obtain ⟨p1, q1, r1⟩ := hu.cmp rfl u1.toNat _ (by omega) k2
    obtain ⟨q2, r2, p2⟩ := ho.cmp p1 ops1 hd r1.symm
    exact ⟨ext_av rfl (by show u = u1; omega) rfl rfl rfl q2, r2, p2⟩

theorem actP_2 {ws w2 w3 : List ByteArray} {b2 b3 : Bool} {u : Int} {key : ByteArray} (hne : ws ≠ []) (hkd : kd (ws.headD ⟨#[]⟩).data.toList = 2) (hu : NumS ws.tail false u w2 b2) (hk' : BytS w2 b2 key w3 b3) (hz : key.size ≤ 65536) : ActP ws ⟨2, u, 0, 0, key, []⟩ w3 b3 := by
  refine ⟨fun e0 e1 o => ?_, fun b hb hw => ?_, ⟨fun o ho => by simp at ho, by simp⟩, hz⟩
  · have hw := act_word hne (by omega)
    rw [hkd] at hw
    have u0 := o.u
    simp only at u0
    obtain ⟨f2, g2⟩ := hk'.snd e0
    obtain ⟨f1, g1⟩ := hu.snd f2 (by omega) (by omega)
    rw [hw, g1, g2]
    rw [e1]
    rfl
  · obtain ⟨k1, k2⟩ := act_kind hb hw
    rw [hkd] at k1
    have hd := ok_del hb
    obtain ⟨k, u1, n1, t1, key1, ops1⟩ := b
    have k1 : k = 2 := k1
    subst k1
    have oU := hb.u; have oN := hb.n; have oT := hb.t
    have zn : n1 = 0 := hb.n0 (show Sct.hn 2 = false by decide)
    subst zn
    have zt : t1 = 0 := hb.t0 (show Sct.ht 2 = false by decide)
    subst zt
    have zo : ops1 = [] := hb.ops
    subst zo
    simp only at oU oN oT hd
    have k2 : Sct.dg u1.toNat :: Wm.wd key1.data.toList :: [] = wl ws.tail := k2
    obtain ⟨p1, q1, r1⟩ := hu.cmp rfl u1.toNat _ (by omega) k2
    obtain ⟨p2, q2, r2⟩ := hk'.cmp p1 key1 _ r1.symm
    exact ⟨ext_av rfl (by show u = u1; omega) rfl rfl q2 rfl, wl_nil r2, p2⟩

theorem actP_3 {ws w2 : List ByteArray} {b2 : Bool} {u : Int} (hne : ws ≠ []) (hkd : kd (ws.headD ⟨#[]⟩).data.toList = 3) (hu : NumS ws.tail false u w2 b2) : ActP ws ⟨3, u, 0, 0, ⟨#[]⟩, []⟩ w2 b2 := by
  refine ⟨fun e0 e1 o => ?_, fun b hb hw => ?_, ⟨fun o ho => by simp at ho, by simp⟩, by show (ByteArray.mk #[]).size ≤ 65536; decide⟩
  · have hw := act_word hne (by omega)
    rw [hkd] at hw
    have u0 := o.u
    simp only at u0
    obtain ⟨f1, g1⟩ := hu.snd e0 (by omega) (by omega)
    rw [hw, g1]
    rw [e1]
    rfl
  · obtain ⟨k1, k2⟩ := act_kind hb hw
    rw [hkd] at k1
    have hd := ok_del hb
    obtain ⟨k, u1, n1, t1, key1, ops1⟩ := b
    have k1 : k = 3 := k1
    subst k1
    have oU := hb.u; have oN := hb.n; have oT := hb.t
    have zn : n1 = 0 := hb.n0 (show Sct.hn 3 = false by decide)
    subst zn
    have zt : t1 = 0 := hb.t0 (show Sct.ht 3 = false by decide)
    subst zt
    have zk : key1 = ⟨#[]⟩ := hb.key
    subst zk
    have zo : ops1 = [] := hb.ops
    subst zo
    simp only at oU oN oT hd
    have k2 : Sct.dg u1.toNat :: [] = wl ws.tail := k2
    obtain ⟨p1, q1, r1⟩ := hu.cmp rfl u1.toNat _ (by omega) k2
    exact ⟨ext_av rfl (by show u = u1; omega) rfl rfl rfl rfl, wl_nil r1, p1⟩

theorem actP_4 {ws w2 : List ByteArray} {b2 : Bool} {u : Int} (hne : ws ≠ []) (hkd : kd (ws.headD ⟨#[]⟩).data.toList = 4) (hu : NumS ws.tail false u w2 b2) : ActP ws ⟨4, u, 0, 0, ⟨#[]⟩, []⟩ w2 b2 := by
  refine ⟨fun e0 e1 o => ?_, fun b hb hw => ?_, ⟨fun o ho => by simp at ho, by simp⟩, by show (ByteArray.mk #[]).size ≤ 65536; decide⟩
  · have hw := act_word hne (by omega)
    rw [hkd] at hw
    have u0 := o.u
    simp only at u0
    obtain ⟨f1, g1⟩ := hu.snd e0 (by omega) (by omega)
    rw [hw, g1]
    rw [e1]
    rfl
  · obtain ⟨k1, k2⟩ := act_kind hb hw
    rw [hkd] at k1
    have hd := ok_del hb
    obtain ⟨k, u1, n1, t1, key1, ops1⟩ := b
    have k1 : k = 4 := k1
    subst k1
    have oU := hb.u; have oN := hb.n; have oT := hb.t
    have zn : n1 = 0 := hb.n0 (show Sct.hn 4 = false by decide)
    subst zn
    have zt : t1 = 0 := hb.t0 (show Sct.ht 4 = false by decide)
    subst zt
    have zk : key1 = ⟨#[]⟩ := hb.key
    subst zk
    have zo : ops1 = [] := hb.ops
    subst zo
    simp only at oU oN oT hd
    have k2 : Sct.dg u1.toNat :: [] = wl ws.tail := k2
    obtain ⟨p1, q1, r1⟩ := hu.cmp rfl u1.toNat _ (by omega) k2
    exact ⟨ext_av rfl (by show u = u1; omega) rfl rfl rfl rfl, wl_nil r1, p1⟩

theorem actP_5 {ws w2 : List ByteArray} {b2 : Bool} {u : Int} (hne : ws ≠ []) (hkd : kd (ws.headD ⟨#[]⟩).data.toList = 5) (hu : NumS ws.tail false u w2 b2) : ActP ws ⟨5, u, 0, 0, ⟨#[]⟩, []⟩ w2 b2 := by
  refine ⟨fun e0 e1 o => ?_, fun b hb hw => ?_, ⟨fun o ho => by simp at ho, by simp⟩, by show (ByteArray.mk #[]).size ≤ 65536; decide⟩
  · have hw := act_word hne (by omega)
    rw [hkd] at hw
    have u0 := o.u
    simp only at u0
    obtain ⟨f1, g1⟩ := hu.snd e0 (by omega) (by omega)
    rw [hw, g1]
    rw [e1]
    rfl
  · obtain ⟨k1, k2⟩ := act_kind hb hw
    rw [hkd] at k1
    have hd := ok_del hb
    obtain ⟨k, u1, n1, t1, key1, ops1⟩ := b
    have k1 : k = 5 := k1
    subst k1
    have oU := hb.u; have oN := hb.n; have oT := hb.t
    have zn : n1 = 0 := hb.n0 (show Sct.hn 5 = false by decide)
    subst zn
    have zt : t1 = 0 := hb.t0 (show Sct.ht 5 = false by decide)
    subst zt
    have zk : key1 = ⟨#[]⟩ := hb.key
    subst zk
    have zo : ops1 = [] := hb.ops
    subst zo
    simp only at oU oN oT hd
    have k2 : Sct.dg u1.toNat :: [] = wl ws.tail := k2
    obtain ⟨p1, q1, r1⟩ := hu.cmp rfl u1.toNat _ (by omega) k2
    exact ⟨ext_av rfl (by show u = u1; omega) rfl rfl rfl rfl, wl_nil r1, p1⟩

theorem actP_6 {ws w2 : List ByteArray} {b2 : Bool} {n : Int} (hne : ws ≠ []) (hkd : kd (ws.headD ⟨#[]⟩).data.toList = 6) (hn : NumS ws.tail false n w2 b2) : ActP ws ⟨6, 0, n, 0, ⟨#[]⟩, []⟩ w2 b2 := by
  refine ⟨fun e0 e1 o => ?_, fun b hb hw => ?_, ⟨fun o ho => by simp at ho, by simp⟩, by show (ByteArray.mk #[]).size ≤ 65536; decide⟩
  · have hw := act_word hne (by omega)
    rw [hkd] at hw
    have n0 := o.n
    simp only at n0
    obtain ⟨f1, g1⟩ := hn.snd e0 (by omega) (by omega)
    rw [hw, g1]
    rw [e1]
    rfl
  · obtain ⟨k1, k2⟩ := act_kind hb hw
    rw [hkd] at k1
    have hd := ok_del hb
    obtain ⟨k, u1, n1, t1, key1, ops1⟩ := b
    have k1 : k = 6 := k1
    subst k1
    have oU := hb.u; have oN := hb.n; have oT := hb.t
    have zu : u1 = 0 := hb.u0 (show Sct.hu 6 = false by decide)
    subst zu
    have zt : t1 = 0 := hb.t0 (show Sct.ht 6 = false by decide)
    subst zt
    have zk : key1 = ⟨#[]⟩ := hb.key
    subst zk
    have zo : ops1 = [] := hb.ops
    subst zo
    simp only at oU oN oT hd
    have k2 : Sct.dg n1.toNat :: [] = wl ws.tail := k2
    obtain ⟨p1, q1, r1⟩ := hn.cmp rfl n1.toNat _ (by omega) k2
    exact ⟨ext_av rfl rfl (by show n = n1; omega) rfl rfl rfl, wl_nil r1, p1⟩

theorem actP_7 {ws w2 : List ByteArray} {b2 : Bool} {n : Int} (hne : ws ≠ []) (hkd : kd (ws.headD ⟨#[]⟩).data.toList = 7) (hn : NumS ws.tail false n w2 b2) : ActP ws ⟨7, 0, n, 0, ⟨#[]⟩, []⟩ w2 b2 := by
  refine ⟨fun e0 e1 o => ?_, fun b hb hw => ?_, ⟨fun o ho => by simp at ho, by simp⟩, by show (ByteArray.mk #[]).size ≤ 65536; decide⟩
  · have hw := act_word hne (by omega)
    rw [hkd] at hw
    have n0 := o.n
    simp only at n0
    obtain ⟨f1, g1⟩ := hn.snd e0 (by omega) (by omega)
    rw [hw, g1]
    rw [e1]
    rfl
  · obtain ⟨k1, k2⟩ := act_kind hb hw
    rw [hkd] at k1
    have hd := ok_del hb
    obtain ⟨k, u1, n1, t1, key1, ops1⟩ := b
    have k1 : k = 7 := k1
    subst k1
    have oU := hb.u; have oN := hb.n; have oT := hb.t
    have zu : u1 = 0 := hb.u0 (show Sct.hu 7 = false by decide)
    subst zu
    have zt : t1 = 0 := hb.t0 (show Sct.ht 7 = false by decide)
    subst zt
    have zk : key1 = ⟨#[]⟩ := hb.key
    subst zk
    have zo : ops1 = [] := hb.ops
    subst zo
    simp only at oU oN oT hd
    have k2 : Sct.dg n1.toNat :: [] = wl ws.tail := k2
    obtain ⟨p1, q1, r1⟩ := hn.cmp rfl n1.toNat _ (by omega) k2
    exact ⟨ext_av rfl rfl (by show n = n1; omega) rfl rfl rfl, wl_nil r1, p1⟩

theorem actP_8 {ws w2 : List ByteArray} {b2 : Bool} {n : Int} (hne : ws ≠ []) (hkd : kd (ws.headD ⟨#[]⟩).data.toList = 8) (hn : NumS ws.tail false n w2 b2) : ActP ws ⟨8, 0, n, 0, ⟨#[]⟩, []⟩ w2 b2 := by
  refine ⟨fun e0 e1 o => ?_, fun b hb hw => ?_, ⟨fun o ho => by simp at ho, by simp⟩, by show (ByteArray.mk #[]).size ≤ 65536; decide⟩
  · have hw := act_word hne (by omega)
    rw [hkd] at hw
    have n0 := o.n
    simp only at n0
    obtain ⟨f1, g1⟩ := hn.snd e0 (by omega) (by omega)
    rw [hw, g1]
    rw [e1]
    rfl
  · obtain ⟨k1, k2⟩ := act_kind hb hw
    rw [hkd] at k1
    have hd := ok_del hb
    obtain ⟨k, u1, n1, t1, key1, ops1⟩ := b
    have k1 : k = 8 := k1
    subst k1
    have oU := hb.u; have oN := hb.n; have oT := hb.t
    have zu : u1 = 0 := hb.u0 (show Sct.hu 8 = false by decide)
    subst zu
    have zt : t1 = 0 := hb.t0 (show Sct.ht 8 = false by decide)
    subst zt
    have zk : key1 = ⟨#[]⟩ := hb.key
    subst zk
    have zo : ops1 = [] := hb.ops
    subst zo
    simp only at oU oN oT hd
    have k2 : Sct.dg n1.toNat :: [] = wl ws.tail := k2
    obtain ⟨p1, q1, r1⟩ := hn.cmp rfl n1.toNat _ (by omega) k2
    exact ⟨ext_av rfl rfl (by show n = n1; omega) rfl rfl rfl, wl_nil r1, p1⟩

theorem actP_9 {ws w2 w3 : List ByteArray} {b2 b3 : Bool} {u n : Int} (hne : ws ≠ []) (hkd : kd (ws.headD ⟨#[]⟩).data.toList = 9) (hu : NumS ws.tail false u w2 b2) (hn : NumS w2 b2 n w3 b3) : ActP ws ⟨9, u, n, 0, ⟨#[]⟩, []⟩ w3 b3 := by
  refine ⟨fun e0 e1 o => ?_, fun b hb hw => ?_, ⟨fun o ho => by simp at ho, by simp⟩, by show (ByteArray.mk #[]).size ≤ 65536; decide⟩
  · have hw := act_word hne (by omega)
    rw [hkd] at hw
    have u0 := o.u
    have n0 := o.n
    simp only at u0 n0
    obtain ⟨f2, g2⟩ := hn.snd e0 (by omega) (by omega)
    obtain ⟨f1, g1⟩ := hu.snd f2 (by omega) (by omega)
    rw [hw, g1, g2]
    rw [e1]
    rfl
  · obtain ⟨k1, k2⟩ := act_kind hb hw
    rw [hkd] at k1
    have hd := ok_del hb
    obtain ⟨k, u1, n1, t1, key1, ops1⟩ := b
    have k1 : k = 9 := k1
    subst k1
    have oU := hb.u; have oN := hb.n; have oT := hb.t
    have zt : t1 = 0 := hb.t0 (show Sct.ht 9 = false by decide)
    subst zt
    have zk : key1 = ⟨#[]⟩ := hb.key
    subst zk
    have zo : ops1 = [] := hb.ops
    subst zo
    simp only at oU oN oT hd
    have k2 : Sct.dg u1.toNat :: Sct.dg n1.toNat :: [] = wl ws.tail := k2
    obtain ⟨p1, q1, r1⟩ := hu.cmp rfl u1.toNat _ (by omega) k2
    obtain ⟨p2, q2, r2⟩ := hn.cmp p1 n1.toNat _ (by omega) r1.symm
    exact ⟨ext_av rfl (by show u = u1; omega) (by show n = n1; omega) rfl rfl rfl, wl_nil r2, p2⟩

theorem actP_10 {ws w2 : List ByteArray} {b2 : Bool} {u : Int} (hne : ws ≠ []) (hkd : kd (ws.headD ⟨#[]⟩).data.toList = 10) (hu : NumS ws.tail false u w2 b2) : ActP ws ⟨10, u, 0, 0, ⟨#[]⟩, []⟩ w2 b2 := by
  refine ⟨fun e0 e1 o => ?_, fun b hb hw => ?_, ⟨fun o ho => by simp at ho, by simp⟩, by show (ByteArray.mk #[]).size ≤ 65536; decide⟩
  · have hw := act_word hne (by omega)
    rw [hkd] at hw
    have u0 := o.u
    simp only at u0
    obtain ⟨f1, g1⟩ := hu.snd e0 (by omega) (by omega)
    rw [hw, g1]
    rw [e1]
    rfl
  · obtain ⟨k1, k2⟩ := act_kind hb hw
    rw [hkd] at k1
    have hd := ok_del hb
    obtain ⟨k, u1, n1, t1, key1, ops1⟩ := b
    have k1 : k = 10 := k1
    subst k1
    have oU := hb.u; have oN := hb.n; have oT := hb.t
    have zn : n1 = 0 := hb.n0 (show Sct.hn 10 = false by decide)
    subst zn
    have zt : t1 = 0 := hb.t0 (show Sct.ht 10 = false by decide)
    subst zt
    have zk : key1 = ⟨#[]⟩ := hb.key
    subst zk
    have zo : ops1 = [] := hb.ops
    subst zo
    simp only at oU oN oT hd
    have k2 : Sct.dg u1.toNat :: [] = wl ws.tail := k2
    obtain ⟨p1, q1, r1⟩ := hu.cmp rfl u1.toNat _ (by omega) k2
    exact ⟨ext_av rfl (by show u = u1; omega) rfl rfl rfl rfl, wl_nil r1, p1⟩

theorem actP_11 {ws w2 w3 w4 : List ByteArray} {b2 b3 b4 : Bool} {u n t : Int} (hne : ws ≠ []) (hkd : kd (ws.headD ⟨#[]⟩).data.toList = 11) (hu : NumS ws.tail false u w2 b2) (hn : NumS w2 b2 n w3 b3) (ht : NumS w3 b3 t w4 b4) : ActP ws ⟨11, u, n, t, ⟨#[]⟩, []⟩ w4 b4 := by
  refine ⟨fun e0 e1 o => ?_, fun b hb hw => ?_, ⟨fun o ho => by simp at ho, by simp⟩, by show (ByteArray.mk #[]).size ≤ 65536; decide⟩
  · have hw := act_word hne (by omega)
    rw [hkd] at hw
    have u0 := o.u
    have n0 := o.n
    have t0 := o.t
    simp only at u0 n0 t0
    obtain ⟨f3, g3⟩ := ht.snd e0 (by omega) (by omega)
    obtain ⟨f2, g2⟩ := hn.snd f3 (by omega) (by omega)
    obtain ⟨f1, g1⟩ := hu.snd f2 (by omega) (by omega)
    rw [hw, g1, g2, g3]
    rw [e1]
    rfl
  · obtain ⟨k1, k2⟩ := act_kind hb hw
    rw [hkd] at k1
    have hd := ok_del hb
    obtain ⟨k, u1, n1, t1, key1, ops1⟩ := b
    have k1 : k = 11 := k1
    subst k1
    have oU := hb.u; have oN := hb.n; have oT := hb.t
    have zk : key1 = ⟨#[]⟩ := hb.key
    subst zk
    have zo : ops1 = [] := hb.ops
    subst zo
    simp only at oU oN oT hd
    have k2 : Sct.dg u1.toNat :: Sct.dg n1.toNat :: Sct.dg t1.toNat :: [] = wl ws.tail := k2
    obtain ⟨p1, q1, r1⟩ := hu.cmp rfl u1.toNat _ (by omega) k2
    obtain ⟨p2, q2, r2⟩ := hn.cmp p1 n1.toNat _ (by omega) r1.symm
    obtain ⟨p3, q3, r3⟩ := ht.cmp p2 t1.toNat _ (by omega) r2.symm
    exact ⟨ext_av rfl (by show u = u1; omega) (by show n = n1; omega) (by show t = t1; omega) rfl rfl, wl_nil r3, p3⟩

theorem actP_12 {ws : List ByteArray}   (hne : ws ≠ []) (hkd : kd (ws.headD ⟨#[]⟩).data.toList = 12)  : ActP ws ⟨12, 0, 0, 0, ⟨#[]⟩, []⟩ ws.tail false := by
  refine ⟨fun e0 e1 o => ?_, fun b hb hw => ?_, ⟨fun o ho => by simp at ho, by simp⟩, by show (ByteArray.mk #[]).size ≤ 65536; decide⟩
  · have hw := act_word hne (by omega)
    rw [hkd] at hw
    rw [hw]
    rw [e1]
    rfl
  · obtain ⟨k1, k2⟩ := act_kind hb hw
    rw [hkd] at k1
    have hd := ok_del hb
    obtain ⟨k, u1, n1, t1, key1, ops1⟩ := b
    have k1 : k = 12 := k1
    subst k1
    have oU := hb.u; have oN := hb.n; have oT := hb.t
    have zu : u1 = 0 := hb.u0 (show Sct.hu 12 = false by decide)
    subst zu
    have zn : n1 = 0 := hb.n0 (show Sct.hn 12 = false by decide)
    subst zn
    have zt : t1 = 0 := hb.t0 (show Sct.ht 12 = false by decide)
    subst zt
    have zk : key1 = ⟨#[]⟩ := hb.key
    subst zk
    have zo : ops1 = [] := hb.ops
    subst zo
    simp only at oU oN oT hd
    have k2 : [] = wl ws.tail := k2
    exact ⟨ext_av rfl rfl rfl rfl rfl rfl, wl_nil k2.symm, rfl⟩

end Go.Proofs.YtdlogcdpapknaaaGreatDoor
