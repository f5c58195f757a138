/- The walk of DiskNames. -/
import Derived.Test.YteklbnonikccaaaPl
import Derived.Lib.SlBytesConst
namespace Go.Proofs.Yteklbnonikccaaa
open Go.RowKit
set_option linter.unusedVariables false

def na4 : Dm.Ds := (Dm.fuse lv3 1).2
def na5 : Dm.Ds := (Dm.write na4 1 [97]).2
def na6 : Dm.Ds := (Dm.sync na5).2
def na7 : Dm.Ds := (Dm.start na6 0 0).2
def na8 : Dm.Ds := (Dm.cutD na7 0 68).2
def na9 : Dm.Ds := (Dm.cutD na8 4 0).2
def na10 : Dm.Ds := (Dm.start na9 0 0).2
def na11 : Dm.Ds := (Dm.write na10 0 []).2

theorem big_na4 : Big 100 10 na4 := big_fuse big_lv3 1 (by omega)
theorem big_na5 : Big 200 20 na5 := (big_write big_na4 1 [97]).mono (by decide) (by decide)
theorem big_na6 : Big 200 30 na6 := (big_sync big_na5).mono (by decide) (by decide)
theorem big_na7 : Big 200 30 na7 := big_start big_na6 0 0
theorem big_na8 : Big 200 40 na8 := (big_cut big_na7 0 68).mono (by decide) (by decide)
theorem big_na9 : Big 200 50 na9 := (big_cut big_na8 4 0).mono (by decide) (by decide)
theorem big_na10 : Big 200 50 na10 := big_start big_na9 0 0
theorem big_na11 : Big 300 60 na11 := (big_write big_na10 0 []).mono (by decide) (by decide)

theorem na_facts : (Dm.fuse lv3 1).1 = 0 ∧ (Dm.write na4 1 [97]).1 = 0 ∧ (Dm.sync na5).1 = 6 ∧ na6.on = false ∧ (Dm.start na6 0 0).1 = 0 ∧ na7.count = 3 ∧ (Dm.cutD na7 0 68).1 = 2 ∧ (Dm.cutD na8 4 0).1 = 2 ∧ (Dm.start na9 0 0).1 = 2 ∧ (Dm.write na10 0 []).1 = 0 ∧ na11.wait.length = 0 ∧ rdE na11 1 = 0 ∧ (rdB na11 1).length = 0 := by decide

set_option maxHeartbeats 8000000 in
theorem diskNames_walk (w : World) : Calls Try.prog 3 #[] w fun E w' => E = .returned (.bool true) ∧ Below w.heap.size w w' := by
  obtain ⟨l1, l2, l3, l4, l5, l6⟩ := lv_facts
  obtain ⟨m1, m2, m3, m4, m5, m6, m7, m8, m9, m10, m11, m12, m13⟩ := na_facts
  have L1 := hide l1
  have L3 := hide l3
  have L4 := hide l4
  have M := hide (And.intro m1 (And.intro m2 (And.intro m3 (And.intro m4 (And.intro m5 (And.intro m6 (And.intro m7 (And.intro m8 (And.intro m9 (And.intro m10 (And.intro m11 (And.intro m12 m13))))))))))))
  clear l1 l2 l3 l4 l5 l6 m1 m2 m3 m4 m5 m6 m7 m8 m9 m10 m11 m12 m13
  go_enter Try.func3, Try.ntmps3
  go_wp2_with fail
  refine (lives_any w).mono ?_
  rintro E w1 ⟨rfl, b1⟩
  have s1 := b1.size
  go_wp2_with fail
  refine (dnew w1).mono ?_
  rintro E w2 ⟨rfl, D2, b2⟩
  have s2 := b2.size
  obtain ⟨w3, hm, b3, own3⟩ := make_step w2
  have HW := hide (dwrite_new (w := w3) D2 s2 b3 (big_new.mono (by omega) (by omega)) 0 _ z70 own3.is (by decide) fun b hb => (own3.block b hb).1)
  clear own3
  go_wp2_with fail
  refine HW.out.mono ?_
  rintro E w4 ⟨rfl, D4, b4⟩
  rw [L1.out]
  have c4 : Below w1.heap.size w1 w4 := (b2.trans (b3.mono s2)).trans b4
  have s4 := c4.size
  go_wp2_with fail
  refine (dpull D4 s4).mono ?_
  rintro E w5 ⟨rfl, D5, b5⟩
  rw [show (Dm.pull (Dm.write Dm.new 0 z70).2).1 = 0 from L3.out]
  have c5 : Below w1.heap.size w1 w5 := c4.trans b5
  have s5 := c5.size
  go_wp2_with fail
  refine (dstart D5 s5 (big_lv2.mono (by omega) (by omega)) 1 3 (by omega)).mono ?_
  rintro E w6 ⟨rfl, D6, b6⟩
  rw [show (Dm.start (Dm.pull (Dm.write Dm.new 0 z70).2).2 1 3).1 = 0 from L4.out]
  have c6 : Below w1.heap.size w1 w6 := c5.trans b6
  have s6 := c6.size
  replace D6 : Dsk w1.heap.size w1.heap.size w6 lv3 := D6
  go_wp2_with fail
  refine (dfuse D6 s6 1).mono ?_
  rintro E w7 ⟨rfl, D7, b7⟩
  rw [M.out.1]
  have c7 : Below w1.heap.size w1 w7 := c6.trans b7
  have s7 := c7.size
  replace D7 : Dsk w1.heap.size w1.heap.size w7 na4 := D7
  obtain ⟨w8, hw8, b8, is8⟩ : ∃ w8, w7.alloc (.cells #[.int .u8 97] 5 (1, 2)) = w8 ∧ Below w7.heap.size w7 w8 ∧ Is .u8 w8 (.slice (some ⟨w7.heap.size, 0, none⟩) 1 1) [97] := by
    refine ⟨_, rfl, (Below.refl _ _).alloc (Nat.le_refl _) _, by decide, .inr ⟨⟨w7.heap.size, 0, none⟩, 1, rfl, by decide, by decide, fun i hi => ?_⟩⟩
    have : i = 0 := by simpa using hi
    subst this
    rw [add_at]
    exact blk_cell (heap_alloc_new w7 _) 0 rfl
  have HW2 := hide (dwrite_new (w := w8) D7 s7 b8 (big_na4.mono (by omega) (by omega)) 1 _ [97] is8 (by decide) fun b hb => by simp [Value.ownBlock] at hb; omega)
  have kc := fun (w : World) (C : Array Value) (n c : Nat) => Lib.run_convert_bytes_const (P := Try.prog) w 27 5 C n c Try.underlying27 Try.underlying5
  clear is8
  go_wp2_with fail
  refine HW2.out.mono ?_
  clear kc
  rintro E w9 ⟨rfl, D9, b9⟩
  rw [M.out.2.1]
  have c9 : Below w1.heap.size w1 w9 := (c7.trans (b8.mono s7)).trans b9
  have s9 := c9.size
  replace D9 : Dsk w1.heap.size w1.heap.size w9 na5 := D9
  go_wp2_with fail
  refine (dsync D9 s9 (big_na5.mono (by omega) (by omega))).mono ?_
  rintro E w10 ⟨rfl, D10, b10⟩
  rw [M.out.2.2.1]
  have c10 : Below w1.heap.size w1 w10 := c9.trans b10
  have s10 := c10.size
  replace D10 : Dsk w1.heap.size w1.heap.size w10 na6 := D10
  obtain ⟨w11, hw11, z11, b11, B11⟩ := blk_step w10 #[.int .i64 0, .int .i64 0, .int .i64 0, .int .i64 0, .int .i64 0, .int .i64 6] 25
  have x0 : w11.cell? ⟨w10.heap.size, 0, none⟩ = some (.int .i64 0) := blk_cell B11 0 rfl
  have x1 : w11.cell? ⟨w10.heap.size, 1, none⟩ = some (.int .i64 0) := blk_cell B11 1 rfl
  have x2 : w11.cell? ⟨w10.heap.size, 2, none⟩ = some (.int .i64 0) := blk_cell B11 2 rfl
  have x3 : w11.cell? ⟨w10.heap.size, 3, none⟩ = some (.int .i64 0) := blk_cell B11 3 rfl
  have x4 : w11.cell? ⟨w10.heap.size, 4, none⟩ = some (.int .i64 0) := blk_cell B11 4 rfl
  have x5 : w11.cell? ⟨w10.heap.size, 5, none⟩ = some (.int .i64 6) := blk_cell B11 5 rfl
  have D11 := D10.below b11
  have c11 : Below w1.heap.size w1 w11 := c10.trans (b11.mono s10)
  have s11 := c11.size
  clear B11
  go_wp2_with fail
  refine (don D11).mono ?_
  rintro E w11' ⟨rfl, rfl⟩
  rw [M.out.2.2.2.1]
  go_wp2_with fail
  refine (dstart D11 s11 (big_na6.mono (by omega) (by omega)) 0 0 (by omega)).mono ?_
  rintro E w12 ⟨rfl, D12, b12⟩
  rw [M.out.2.2.2.2.1]
  have c12 : Below w1.heap.size w1 w12 := c11.trans b12
  have s12 := c12.size
  replace D12 : Dsk w1.heap.size w1.heap.size w12 na7 := D12
  clear x0 x1 x2 x3 x4 x5
  go_wp2_with fail
  refine (dsteps D12).mono ?_
  rintro E w12' ⟨rfl, rfl⟩
  rw [M.out.2.2.2.2.2.1]
  go_wp2_with fail
  refine (dcut D12 s12 (big_na7.mono (by omega) (by omega)) 0 68).mono ?_
  rintro E w13 ⟨rfl, D13, b13⟩
  rw [M.out.2.2.2.2.2.2.1]
  have c13 : Below w1.heap.size w1 w13 := c12.trans b13
  have s13 := c13.size
  replace D13 : Dsk w1.heap.size w1.heap.size w13 na8 := D13
  go_wp2_with fail
  refine (dcut D13 s13 (big_na8.mono (by omega) (by omega)) 4 0).mono ?_
  rintro E w14 ⟨rfl, D14, b14⟩
  rw [M.out.2.2.2.2.2.2.2.1]
  have c14 : Below w1.heap.size w1 w14 := c13.trans b14
  have s14 := c14.size
  replace D14 : Dsk w1.heap.size w1.heap.size w14 na9 := D14
  go_wp2_with fail
  refine (dstart D14 s14 (big_na9.mono (by omega) (by omega)) 0 0 (by omega)).mono ?_
  rintro E w15 ⟨rfl, D15, b15⟩
  rw [M.out.2.2.2.2.2.2.2.2.1]
  have c15 : Below w1.heap.size w1 w15 := c14.trans b15
  have s15 := c15.size
  replace D15 : Dsk w1.heap.size w1.heap.size w15 na10 := D15
  go_wp2_with fail
  refine (dwrite_old D15 s15 (big_na10.mono (by omega) (by omega)) 0 (.slice none 0 0) [] (Is.nil _ _) (by decide) fun b hb => by simp [Value.ownBlock] at hb).mono ?_
  rintro E w16 ⟨rfl, D16, b16⟩
  rw [M.out.2.2.2.2.2.2.2.2.2.1]
  have c16 : Below w1.heap.size w1 w16 := c15.trans b16
  have s16 := c16.size
  replace D16 : Dsk w1.heap.size w1.heap.size w16 na11 := D16
  go_wp2_with fail
  refine (dpend D16).mono ?_
  rintro E w16' ⟨rfl, rfl⟩
  rw [M.out.2.2.2.2.2.2.2.2.2.2.1]
  go_wp2_with fail
  refine (dread D16 (big_na11.mono (by omega) (by omega)) 1).mono ?_
  rintro E w17 ⟨v17, rfl, own17, b17⟩
  rw [M.out.2.2.2.2.2.2.2.2.2.2.2.1]
  obtain ⟨a17, k17, hv17, _, _⟩ := own17.is.shape
  rw [M.out.2.2.2.2.2.2.2.2.2.2.2.2] at hv17
  subst hv17
  have c17 : Below w.heap.size w w17 := b1.trans ((c16.trans (b17.mono s16)).mono s1)
  clear own17
  go_wp2
  go_ret
  exact ⟨rfl, c17⟩

end Go.Proofs.Yteklbnonikccaaa
