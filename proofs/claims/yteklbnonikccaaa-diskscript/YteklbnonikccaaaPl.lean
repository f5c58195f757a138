/- A disk of the program's that lies in new memory alone; the chapter's first examples. -/
import Derived.Test.YteklbnonikccaaaPx
import Derived.Test.YteklbnonikccaaaPi
import Derived.Test.YteklbnonikccaaaPj
import Derived.Test.YteklbnonikccaaaDn
namespace Go.Proofs.Yteklbnonikccaaa
open Go.RowKit
set_option linter.unusedVariables false

/-- A disk whose blocks are from 'base' on. -/
def Dsk (base p : Nat) (w : World) (st : Dm.Ds) : Prop := ∃ F, Pk p F w st ∧ ∀ g, F g → base ≤ g

section
variable {base p : Nat} {w w' : World} {st st' : Dm.Ds} {F : Nat → Prop}

theorem Dsk.below (h : Dsk base p w st) (hb : Below w.heap.size w w') : Dsk base p w' st := by
  obtain ⟨F, h1, h2⟩ := h
  exact ⟨F, h1.below hb, h2⟩

theorem Dsk.step (hF : ∀ g, F g → base ≤ g) (hb : base ≤ w.heap.size) (h : PStep p F w w' st') : Dsk base p w' st' ∧ Below base w w' := by
  obtain ⟨F', h1, h2, h3⟩ := h
  exact ⟨⟨F', h1, fun g hg => (h3 g hg).elim (hF g) fun h => Nat.le_trans hb h⟩, h2.below hF hb⟩

theorem dpull (h : Dsk base p w st) (hb : base ≤ w.heap.size) : Calls Try.prog 11 #[.pointer (some ⟨p, 0, none⟩)] w fun E w' => E = .returned (.int .i64 (Dm.pull st).1) ∧ Dsk base p w' (Dm.pull st).2 ∧ Below base w w' := by
  obtain ⟨F, h1, h2⟩ := h
  exact (pull_any p F w st h1).mono fun E w' ⟨e, s⟩ => ⟨e, Dsk.step h2 hb s⟩

theorem dsafe (h : Dsk base p w st) (hb : base ≤ w.heap.size) : Calls Try.prog 34 #[.pointer (some ⟨p, 0, none⟩)] w fun E w' => E = .returned (.int .i64 (Dm.safe st).1) ∧ Dsk base p w' (Dm.safe st).2 ∧ Below base w w' := by
  obtain ⟨F, h1, h2⟩ := h
  exact (safe_any p F w st h1).mono fun E w' ⟨e, s⟩ => ⟨e, Dsk.step h2 hb s⟩

theorem dfuse (h : Dsk base p w st) (hb : base ≤ w.heap.size) (n : Int) : Calls Try.prog 13 #[.pointer (some ⟨p, 0, none⟩), .int .i64 n] w fun E w' => E = .returned (.int .i64 (Dm.fuse st n).1) ∧ Dsk base p w' (Dm.fuse st n).2 ∧ Below base w w' := by
  obtain ⟨F, h1, h2⟩ := h
  exact (fuse_any p F w st n h1).mono fun E w' ⟨e, s⟩ => ⟨e, Dsk.step h2 hb s⟩

theorem dsync (h : Dsk base p w st) (hb : base ≤ w.heap.size) (hs : Big 100000000 900000 st) : Calls Try.prog 14 #[.pointer (some ⟨p, 0, none⟩)] w fun E w' => E = .returned (.int .i64 (Dm.sync st).1) ∧ Dsk base p w' (Dm.sync st).2 ∧ Below base w w' := by
  obtain ⟨F, h1, h2⟩ := h
  refine (sync_any p F w st h1 (fun f => by have := hs.1.1 f; omega) (by have := hs.1.2.1; omega) hs.2 (by have := hs.1.2.2; omega)).mono fun E w' ⟨e, s⟩ => ⟨e, Dsk.step h2 hb s⟩

theorem dcut (h : Dsk base p w st) (hb : base ≤ w.heap.size) (hs : Big 100000000 900000 st) (file len : Int) : Calls Try.prog 17 #[.pointer (some ⟨p, 0, none⟩), .int .i64 file, .int .i64 len] w fun E w' => E = .returned (.int .i64 (Dm.cutD st file len).1) ∧ Dsk base p w' (Dm.cutD st file len).2 ∧ Below base w w' := by
  obtain ⟨F, h1, h2⟩ := h
  refine (cut_any p F w st file len h1 (fun f => by have := hs.1.1 f; omega) (by have := hs.1.2.1; omega) hs.2 (by have := hs.1.2.2; omega)).mono fun E w' ⟨e, s⟩ => ⟨e, Dsk.step h2 hb s⟩

theorem dstart (h : Dsk base p w st) (hb : base ≤ w.heap.size) (hs : Big 100000000 900000 st) (k t : Int) (ht : t ≤ 9223372036854775807) : Calls Try.prog 12 #[.pointer (some ⟨p, 0, none⟩), .int .i64 k, .int .i64 t] w fun E w' => E = .returned (.int .i64 (Dm.start st k t).1) ∧ Dsk base p w' (Dm.start st k t).2 ∧ Below base w w' := by
  obtain ⟨F, h1, h2⟩ := h
  refine (start_any p F w st k t h1 ht (fun f => by have := hs.1.1 f; omega) (by have := hs.1.2.1; omega)).mono fun E w' ⟨e, s⟩ => ⟨e, Dsk.step h2 hb s⟩

/-- Bytes that are none of the disk's. -/
theorem dwrite (h1 : Pk p F w st) (h2 : ∀ g, F g → base ≤ g) (hb : base ≤ w.heap.size) (hs : Big 100000000 900000 st) (file : Int) (vb : Value) (bs : List Int) (hi : Is .u8 w vb bs) (hl : bs.length ≤ 1000) (hn : 0 < bs.length → ∀ b, vb.ownBlock = some b → ¬ F b) :
    Calls Try.prog 10 #[.pointer (some ⟨p, 0, none⟩), .int .i64 file, vb] w fun E w' => E = .returned (.int .i64 (Dm.write st file bs).1) ∧ Dsk base p w' (Dm.write st file bs).2 ∧ Below base w w' := by
  have hc : cnt bs.length ≤ 100 := by unfold cnt; omega
  refine (write_any p F w st file vb bs h1 hi hn (by omega) (by have := hs.1.2.1; omega) hs.2 (by have := hs.1.2.2; omega)).mono fun E w' ⟨e, s⟩ => ⟨e, Dsk.step h2 hb s⟩

/-- Bytes of a row that was made behind the disk's last change. -/
theorem dwrite_new {w0 : World} (h : Dsk base p w0 st) (hb0 : base ≤ w0.heap.size) (hbel : Below w0.heap.size w0 w) (hs : Big 100000000 900000 st) (file : Int) (vb : Value) (bs : List Int) (hi : Is .u8 w vb bs) (hl : bs.length ≤ 1000) (hn : ∀ b, vb.ownBlock = some b → w0.heap.size ≤ b) :
    Calls Try.prog 10 #[.pointer (some ⟨p, 0, none⟩), .int .i64 file, vb] w fun E w' => E = .returned (.int .i64 (Dm.write st file bs).1) ∧ Dsk base p w' (Dm.write st file bs).2 ∧ Below base w w' := by
  obtain ⟨F, h1, h2⟩ := h
  exact dwrite (h1.below hbel) h2 (Nat.le_trans hb0 hbel.size) hs file vb bs hi hl fun _ b hb hF => by have := h1.lt b hF; have := hn b hb; omega

/-- Bytes that lay there ahead of the disk. -/
theorem dwrite_old (h : Dsk base p w st) (hb0 : base ≤ w.heap.size) (hs : Big 100000000 900000 st) (file : Int) (vb : Value) (bs : List Int) (hi : Is .u8 w vb bs) (hl : bs.length ≤ 1000) (hn : 0 < bs.length → ∀ b, vb.ownBlock = some b → b < base) :
    Calls Try.prog 10 #[.pointer (some ⟨p, 0, none⟩), .int .i64 file, vb] w fun E w' => E = .returned (.int .i64 (Dm.write st file bs).1) ∧ Dsk base p w' (Dm.write st file bs).2 ∧ Below base w w' := by
  obtain ⟨F, h1, h2⟩ := h
  exact dwrite h1 h2 hb0 hs file vb bs hi hl fun h0 b hb hF => by have := h2 b hF; have := hn h0 b hb; omega

theorem don (h : Dsk base p w st) : Calls Try.prog 15 #[.pointer (some ⟨p, 0, none⟩)] w fun E w' => E = .returned (.bool st.on) ∧ w = w' := by
  obtain ⟨F, h1, h2⟩ := h
  exact on_any p F w st h1
theorem dsteps (h : Dsk base p w st) : Calls Try.prog 16 #[.pointer (some ⟨p, 0, none⟩)] w fun E w' => E = .returned (.int .i64 st.count) ∧ w = w' := by
  obtain ⟨F, h1, h2⟩ := h
  exact steps_any p F w st h1
theorem dpend (h : Dsk base p w st) : Calls Try.prog 18 #[.pointer (some ⟨p, 0, none⟩)] w fun E w' => E = .returned (.int .i64 st.wait.length) ∧ w = w' := by
  obtain ⟨F, h1, h2⟩ := h
  exact pend_any p F w st h1
theorem dread (h : Dsk base p w st) (hs : Big 100000000 900000 st) (file : Int) : Calls Try.prog 19 #[.pointer (some ⟨p, 0, none⟩), .int .i64 file] w fun E w' => ∃ v, E = .returned (.tuple #[v, .int .i64 (rdE st file)]) ∧ Own .u8 5 w.heap.size w' v (rdB st file) ∧ Below w.heap.size w w' := by
  obtain ⟨F, h1, h2⟩ := h
  exact read_any p F w st file h1 (fun f => by have := hs.1.1 f; omega) (by have := hs.1.2.1; omega)
theorem ddur (h : Dsk base p w st) (hs : Big 100000000 900000 st) (file : Int) : Calls Try.prog 28 #[.pointer (some ⟨p, 0, none⟩), .int .i64 file] w fun E w' => ∃ v, E = .returned v ∧ Own .u8 5 w.heap.size w' v (duB st file) ∧ Below w.heap.size w w' := by
  obtain ⟨F, h1, h2⟩ := h
  exact durable_any p F w st file h1 (fun f => by have := hs.1.1 f; omega)
end

theorem dnew (w : World) : Calls Try.prog 9 #[] w fun E w' => E = .returned (.pointer (some ⟨w.heap.size, 0, none⟩)) ∧ Dsk w.heap.size w.heap.size w' Dm.new ∧ Below w.heap.size w w' :=
  (new_any w).mono fun E w' ⟨e, h, b⟩ => ⟨e, ⟨_, h, fun g hg => by omega⟩, b⟩

def z70 : List Int := List.replicate 70 0

def lv1 : Dm.Ds := (Dm.write Dm.new 0 z70).2
def lv2 : Dm.Ds := (Dm.pull lv1).2
def lv3 : Dm.Ds := (Dm.start lv2 1 3).2

theorem big_lv1 : Big 100 10 lv1 := (big_write big_new 0 z70).mono (by decide) (by decide)
theorem big_lv2 : Big 100 10 lv2 := big_pull big_lv1
theorem big_lv3 : Big 100 10 lv3 := big_start big_lv2 1 3

theorem lv_facts : (Dm.write Dm.new 0 z70).1 = 0 ∧ lv1.wait.length = 2 ∧ (Dm.pull lv1).1 = 0 ∧ (Dm.start lv2 1 3).1 = 0 ∧ rdE lv3 0 = 0 ∧ (rdB lv3 0).length = 67 := by decide

theorem made_rep (n : Nat) : (madeCells #[.int .u8 0] n).toList = (List.replicate n 0).map (Value.int .u8) := by
  unfold madeCells
  rw [Array.toList_map, Array.toList_range]
  apply List.ext_getElem
  · simp
  · intro i h1 h2
    simp [Nat.mod_one]

/-- 'make([]byte, 70)'. -/
theorem make_step (w : World) : ∃ W, (Instr.makeSlice 27 (.int .i64 70) (.int .i64 70)).run Try.prog w = .ok (.slice (some ⟨w.heap.size, 0, none⟩) 70 70) W ∧ Below w.heap.size w W ∧ Own .u8 5 w.heap.size W (.slice (some ⟨w.heap.size, 0, none⟩) 70 70) z70 := by
  obtain ⟨i, hi, hz, hsize, hb⟩ := info_parts Try.info5
  obtain ⟨W, h1, h2, h3⟩ := run_make_full (P := Try.prog) w w.heap.size 27 5 i (.int .u8 0) 1 Try.underlying27 hi hz hsize .i64 .i64 70 (by rw [hb]; decide) (by decide) (Nat.le_refl _)
  have e : (madeCells (Value.int .u8 0).cells (70 * 1)).toList = z70.map (Value.int .u8) := made_rep 70
  rw [e] at h2
  exact ⟨W, h1, (Below.refl _ _).grown h3 (Nat.le_refl _) fun k hk => (by cases hk), (fun z hz => (by rw [List.eq_of_mem_replicate hz]; rfl)), h2⟩

set_option maxHeartbeats 2000000 in
theorem lives_any (w : World) : Calls Try.prog 8 #[] w fun E w' => E = .returned (.bool true) ∧ Below w.heap.size w w' := by
  obtain ⟨l1, l2, l3, l4, l5, l6⟩ := lv_facts
  have L := hide (And.intro l1 (And.intro l2 (And.intro l3 (And.intro l4 (And.intro l5 l6)))))
  clear l1 l2 l3 l4 l5 l6
  go_enter Try.func8, Try.ntmps8
  go_wp2_with fail
  refine (dnew w).mono ?_
  rintro E w1 ⟨rfl, D1, bel1⟩
  have hsz := bel1.size
  obtain ⟨w2, hm, bel2, own2⟩ := make_step w1
  have HW := hide (dwrite_new (w := w2) D1 hsz bel2 (big_new.mono (by omega) (by omega)) 0 _ z70 own2.is (by decide) fun b hb => (own2.block b hb).1)
  clear own2
  go_wp2_with fail
  refine HW.out.mono ?_
  rintro E w3 ⟨rfl, D3, bel3⟩
  rw [L.out.1]
  have bel13 : Below w.heap.size w w3 := (bel1.trans (bel2.mono hsz)).trans bel3
  have hsz3 := bel13.size
  go_wp2_with fail
  refine (dpend D3).mono ?_
  rintro E w3 ⟨rfl, rfl⟩
  rw [show (Dm.write Dm.new 0 z70).2.wait.length = 2 from L.out.2.1]
  go_wp2_with fail
  refine (dpull D3 hsz3).mono ?_
  rintro E w4 ⟨rfl, D4, bel4⟩
  rw [show (Dm.pull (Dm.write Dm.new 0 z70).2).1 = 0 from L.out.2.2.1]
  have bel14 : Below w.heap.size w w4 := bel13.trans bel4
  have hsz4 := bel14.size
  go_wp2_with fail
  refine (dstart D4 hsz4 (big_lv2.mono (by omega) (by omega)) 1 3 (by omega)).mono ?_
  rintro E w5 ⟨rfl, D5, bel5⟩
  rw [show (Dm.start (Dm.pull (Dm.write Dm.new 0 z70).2).2 1 3).1 = 0 from L.out.2.2.2.1]
  have bel15 : Below w.heap.size w w5 := bel14.trans bel5
  have hsz5 := bel15.size
  go_wp2_with fail
  refine (dread D5 (big_lv3.mono (by omega) (by omega)) 0).mono ?_
  rintro E w6 ⟨v6, rfl, own6, bel6⟩
  rw [show rdE (Dm.start (Dm.pull (Dm.write Dm.new 0 z70).2).2 1 3).2 0 = 0 from L.out.2.2.2.2.1]
  have bel16 : Below w.heap.size w w6 := bel15.trans (bel6.mono hsz5)
  obtain ⟨a6, c6, hv6, _, _⟩ := own6.is.shape
  rw [show (rdB (Dm.start (Dm.pull (Dm.write Dm.new 0 z70).2).2 1 3).2 0).length = 67 from L.out.2.2.2.2.2] at hv6
  subst hv6
  clear own6
  go_wp2
  go_ret
  exact ⟨rfl, bel16⟩

end Go.Proofs.Yteklbnonikccaaa
