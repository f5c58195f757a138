/- Package script (layer 25): the reader's ops. -/
import Derived.Test.YtgcdibglkbfjdaaGreatDoorSxf
import Derived.Test.YtgcdibglkbfjdaaGreatDoorBk
import Derived.Deep.LoopGhost
namespace Go.Proofs.YtgcdibglkbfjdaaGreatDoor
open Go.RowKit
set_option linter.unusedVariables false
set_option maxRecDepth 100000

/-- Ops that were read, some words left. -/
structure OpL (ws0 : List ByteArray) (bad0 : Bool) (l : List Bm.Ov) (ws : List ByteArray) (bad : Bool) : Prop where
  suf : ∃ k, ws = ws0.drop k
  len : l.length + ws.length ≤ ws0.length
  snd : bad = false → bad0 = false ∧ wl ws0 = Sct.opw l ++ wl ws ∧ ∀ o ∈ l, vdel o
  cmp : bad0 = false → ∀ m : List Bm.Ov, (∀ o ∈ m, vdel o) → Sct.opw m = wl ws0 → ∃ m', m = l ++ m' ∧ Sct.opw m' = wl ws ∧ bad = false
  fit : ∀ o ∈ l, o.k.size ≤ 65536 ∧ o.v.size ≤ 65536

theorem OpL.start (ws0 : List ByteArray) (bad0 : Bool) : OpL ws0 bad0 [] ws0 bad0 :=
  ⟨⟨0, rfl⟩, by simp, fun h => ⟨h, rfl, fun o ho => by simp at ho⟩, fun h m _ e => ⟨m, rfl, e, h⟩, fun o ho => by simp at ho⟩

theorem opw_app : ∀ (l m : List Bm.Ov), Sct.opw (l ++ m) = Sct.opw l ++ Sct.opw m
  | [], m => rfl
  | o :: l, m => by rw [List.cons_append, opw_one, opw_one o l, opw_app l m, List.append_assoc]

theorem opw_nil {m : List Bm.Ov} (h : Sct.opw m = []) : m = [] := by
  cases m with
  | nil => rfl
  | cons o r =>
    exfalso
    simp only [Sct.opw] at h
    split at h <;> simp at h

theorem OpL.step {ws0 ws ws' : List ByteArray} {bad0 bad' : Bool} {l : List Bm.Ov} {o : Bm.Ov} (h : OpL ws0 bad0 l ws false) (hn : ws ≠ []) (k : OpP ws false o ws' bad') : OpL ws0 bad0 (l ++ [o]) ws' bad' := by
  obtain ⟨⟨i, hi⟩, h1, h2, h3, h4⟩ := h
  obtain ⟨⟨j, hj, hj1⟩, k2, k3, k4⟩ := k
  have hj1 := hj1 hn
  have hwl : 0 < ws.length := List.length_pos_iff.2 hn
  refine ⟨⟨i + j, by rw [hj, hi, List.drop_drop]⟩, ?_, fun e => ?_, fun e m hm hw => ?_, fun q hq => ?_⟩
  · rw [hj, List.length_append, List.length_drop]
    simp only [List.length_cons, List.length_nil]
    omega
  · obtain ⟨e0, e1, e2⟩ := h2 rfl
    obtain ⟨_, k5, k6⟩ := k2 e
    refine ⟨e0, by rw [e1, k5, opw_app, List.append_assoc], fun q hq => ?_⟩
    rcases List.mem_append.1 hq with hq | hq
    · exact e2 q hq
    · rw [List.mem_singleton.1 hq]; exact k6
  · obtain ⟨m', hm', hw', _⟩ := h3 e m hm hw
    cases m' with
    | nil =>
      exfalso
      have : wl ws = [] := hw'.symm
      simp [wl] at this
      exact hn this
    | cons q r =>
      obtain ⟨b, rfl, c⟩ := k3 rfl q r (hm q (by rw [hm']; simp)) hw'
      exact ⟨r, by rw [hm']; simp, c.symm, b⟩
  · rcases List.mem_append.1 hq with hq | hq
    · exact h4 q hq
    · rw [List.mem_singleton.1 hq]; exact k4

/-- What the reader's ops comes to. -/
structure OpsP (ws0 : List ByteArray) (bad0 : Bool) (l : List Bm.Ov) (ws : List ByteArray) (bad : Bool) : Prop where
  suf : ∃ k, ws = ws0.drop k
  len : l.length ≤ ws0.length
  snd : bad = false → bad0 = false ∧ ws = [] ∧ wl ws0 = Sct.opw l
  cmp : bad0 = false → ∀ m : List Bm.Ov, (∀ o ∈ m, vdel o) → Sct.opw m = wl ws0 → l = m ∧ ws = [] ∧ bad = false
  fit : ∀ o ∈ l, o.k.size ≤ 65536 ∧ o.v.size ≤ 65536

theorem OpL.done {ws0 ws : List ByteArray} {bad0 bad : Bool} {l : List Bm.Ov} (h : OpL ws0 bad0 l ws bad) (he : ws = [] ∨ bad = true) : OpsP ws0 bad0 l ws bad := by
  obtain ⟨h0, h1, h2, h3, h4⟩ := h
  refine ⟨h0, by omega, fun e => ?_, fun e m hm hw => ?_, h4⟩
  · obtain ⟨a, b, c⟩ := h2 e
    rcases he with rfl | he
    · exact ⟨a, rfl, by simpa [wl] using b⟩
    · rw [e] at he; cases he
  · obtain ⟨m', hm', hw', hb⟩ := h3 e m hm hw
    rcases he with rfl | he
    · have := opw_nil (m := m') (by rw [hw']; rfl)
      subst this
      exact ⟨by rw [hm']; simp, rfl, hb⟩
    · rw [hb] at he; cases he

theorem Rd.belown {w0 w w' : World} {g n : Nat} {ws : List ByteArray} {bad : Bool} (h : Rd w0 w g ws bad) (hb : Below n w w') (h0 : w0.heap.size ≤ n) (hg : g < n) : Rd w0 w' g ws bad := by
  obtain ⟨a, c, h⟩ := h
  exact ⟨a, c, h.le, h.bel.trans (hb.mono h0), (hb.block g hg).trans h.blk, h.len, h.adr, h.wrd⟩

theorem grown_belown {w w1 w2 : World} {row : Option Nat} (h : w.grownBy w1 row) (b : Below w.heap.size w1 w2) : w.grownBy w2 row :=
  ⟨b.os.trans h.os, b.tape.trans h.tape, b.output.trans h.output, Nat.le_trans h.size b.size, fun i hi hne => (b.block i hi).trans (h.block i hi hne)⟩

set_option maxHeartbeats 2000000 in
theorem rops_any (w0 w : World) (g : Nat) (ws0 : List ByteArray) (bad0 : Bool) (hz : ∀ s ∈ ws0, s.size ≤ 65536) (hl : ws0.length ≤ 65536) (h : Rd w0 w g ws0 bad0) :
    Calls Tryz.prog 56 #[.pointer (some ⟨g, 0, none⟩)] w fun E w' => ∃ v l ws' bad', E = .returned v ∧ OwnO 77 w.heap.size w' v l ∧ OpsP ws0 bad0 l ws' bad' ∧ Rd w0 w' g ws' bad' ∧ w.grownBy w' (some g) := by
  have hgl := h.lt
  have hw0 := h.bel.size
  have HZ := hide hz
  clear hz
  go_enter Tryz.func56, Tryz.ntmps56
  go_wp2
  go_loopg [3] ws0.length (fun gf lv wr => ∃ (l : List Bm.Ov) (ws : List ByteArray) (bad : Bool), OwnO 77 w.heap.size wr lv l ∧ Rd w0 wr g ws bad ∧ w.grownBy wr (some g) ∧ Hid (OpL ws0 bad0 l ws bad) ∧ ws.length ≤ gf)
  case atStart => exact ⟨[], ws0, bad0, OwnO.nil _ _ _, h, World.grownBy.refl _ _, hide (OpL.start _ _), Nat.le_refl _⟩
  case round =>
    obtain ⟨l, ws, bad, own, R, G, L, hgf⟩ := hrel
    have HR := hide R
    have hsg := G.size
    obtain ⟨a3, k3, R3⟩ := R
    have d0 := blk_cell R3.blk 0 rfl
    have d1 := blk_cell R3.blk 1 rfl
    clear R3
    by_cases hn : ws = []
    · have P := hide (L.out.done (.inl hn))
      have hz : (ws.length : Int) = 0 := by rw [hn]; rfl
      clear hn L
      go_wp2
      go_ret
      exact ⟨_, l, ws, bad, rfl, own, P.out, HR.out, G⟩
    have hpos : (0 : Int) < ws.length := by have := List.length_pos_iff.2 hn; omega
    cases hb : bad
    · rw [hb] at L HR d1
      have hzw : ∀ s ∈ ws, s.size ≤ 65536 := by
        obtain ⟨k, hk⟩ := L.out.suf
        rw [hk]
        exact fun s hs => HZ.out s (List.mem_of_mem_drop hs)
      have hlen := L.out.len
      have HN := hide hn
      obtain ⟨g', rfl⟩ : ∃ g', gk = g' + 1 := ⟨gk - 1, by omega⟩
      clear hn
      go_wp2_with fail
      refine (rop_any w0 wr g ws false hzw HR.out).mono ?_
      rintro E w1 ⟨o, ws', bad', rfl, O1, R1, G1⟩
      have L1 := hide (L.out.step HN.out O1)
      have hls : ws'.length < ws.length := by
        obtain ⟨k, hk, h1⟩ := O1.suf
        have := h1 HN.out
        have := List.length_pos_iff.2 HN.out
        rw [hk, List.length_drop]
        omega
      have own1 := own.kept G1 (by
        rcases hv : Value.ownBlock _ with _ | b
        · exact .inl rfl
        · refine .inr fun e => ?_
          have := own.block b hv
          simp at e
          omega)
      have s1 := G1.size
      unfold opv
      obtain ⟨w2, hw2, sz2, b2, own2⟩ := ops_step 77 w1 #[.bool o.p, .string o.k, .string o.v] 1 [o] rfl rfl (by simp [maxLen])
      have own3 := own1.below b2
      have R2 := R1.below b2
      have G2 : w.grownBy w2 (some g) := grown_trans (grown_trans G G1) (grown_of_below b2 _)
      clear own own1 R1 G1 O1 L HZ
      go_wp2_with (at_builtin; refine wpList_append_ops rfl (.tmp 17) (.tmp 20) 22 rfl 77 w.heap.size Tryz.underlying22 Tryz.info77 _ l rfl own3 _ [o] rfl own2.is (by simp; omega) (by omega) ?_)
      intro v3 w3 own4 b3 g3
      have R3 := R2.belown b3 hw0 hgl
      have G3 : w.grownBy w3 (some g) := grown_belown G2 b3
      clear R2 G2 b3 g3 own2 own3 b2
      go_wp2
      go_roundg g'
      case measure => omega
      case rel => exact ⟨_, _, _, own4, R3, G3, L1, by omega⟩
    · have P := hide (L.out.done (.inr hb))
      rw [hb] at P HR d1
      clear hn L
      go_wp2
      go_ret
      exact ⟨_, l, ws, true, rfl, own, P.out, HR.out, G⟩

end Go.Proofs.YtgcdibglkbfjdaaGreatDoor
