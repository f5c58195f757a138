/- The contract of op's Text. -/
import Derived.Test.YtdlogcdpapknaaaGreatDoorZE
import Derived.Test.YtdlogcdpapknaaaGreatDoorZJ
namespace Go.Proofs.YtdlogcdpapknaaaGreatDoor
open Go.RowKit
set_option linter.unusedVariables false

/-- An op's text. -/
def txt (p : Bool) (k v : List UInt8) : List UInt8 := if p then [112, 117, 116, 32] ++ Wm.wd k ++ [32] ++ Wm.wd v else [100, 101, 108, 32] ++ Wm.wd k

/-- What Text answers. -/
def txd (p : Bool) (k v : List UInt8) : List UInt8 := if Om.chk p k v = 0 then txt p k v else []

theorem txd_ok {p : Bool} {k v : List UInt8} (h : Om.chk p k v = 0) : txd p k v = txt p k v := by unfold txd; rw [if_pos h]
theorem txd_no {p : Bool} {k v : List UInt8} (h : Om.chk p k v = 2) : txd p k v = [] := by unfold txd; rw [if_neg (by omega)]

theorem wd_short (s : ByteArray) (h : s.size ≤ 32) : (⟨(Wm.wd s.data.toList).toArray⟩ : ByteArray).size ≤ 98 := by
  have := Wm.wd_le s.data.toList
  rw [← Lib.size_eq] at this
  rw [Lib.size_eq]
  simp only
  omega

set_option maxHeartbeats 1000000 in
theorem text_any (p : Bool) (k v : ByteArray) (w : World) (hk : k.size ≤ 140737488351232) (hv : v.size ≤ 140737488351232) :
    Calls Tryz.prog 60 #[opv p k v] w fun E w' => ∃ t : ByteArray, E = .returned (.tuple #[.string t, .int .i64 (Om.chk p k.data.toList v.data.toList)]) ∧ t.data.toList = txd p k.data.toList v.data.toList ∧ Below w.heap.size w w' := by
  obtain ⟨w0, hw0, sz0, bel0, blk0⟩ := blk_step w #[.bool p, .string k, .string v] 77
  have d0 : w0.cell? ⟨w.heap.size, 0, none⟩ = some (.bool p) := blk_cell blk0 0 rfl
  have d1 : w0.cell? ⟨w.heap.size, 1, none⟩ = some (.string k) := blk_cell blk0 1 rfl
  have d2 : w0.cell? ⟨w.heap.size, 2, none⟩ = some (.string v) := blk_cell blk0 2 rfl
  unfold opv
  rcases Om.chk_two p k.data.toList v.data.toList with hc | hc
  · have hh := Om.chk_ok' hc
    rw [← Lib.size_eq, ← Lib.size_eq] at hh
    have hk16 := hh.2.1
    have hv32 := hh.2.2.1
    have hwk := wd_short k (by omega)
    have hwv := wd_short v (by omega)
    have hk1 : k.size ≤ 35184372088832 := by omega
    have hv1 : v.size ≤ 35184372088832 := by omega
    rw [txd_ok hc, hc]
    have HC := hide hc
    clear hc hh
    obtain ⟨zk, hzk⟩ : ∃ z : ByteArray, (⟨(Wm.wd k.data.toList).toArray⟩ : ByteArray) = z := ⟨_, rfl⟩
    obtain ⟨zv, hzv⟩ : ∃ z : ByteArray, (⟨(Wm.wd v.data.toList).toArray⟩ : ByteArray) = z := ⟨_, rfl⟩
    rw [hzk] at hwk
    rw [hzv] at hwv
    have xk : ∀ w', Calls Tryz.prog 59 #[.string k] w' fun E w'' => E = .returned (.string zk) ∧ Below w'.heap.size w' w'' := fun w' => by rw [← hzk]; exact word_any k w' hk1
    have xv : ∀ w', Calls Tryz.prog 59 #[.string v] w' fun E w'' => E = .returned (.string zv) ∧ Below w'.heap.size w' w'' := fun w' => by rw [← hzv]; exact word_any v w' hv1
    have HZK := hide hzk
    have HZV := hide hzv
    have XK := hide xk
    have XV := hide xv
    clear hzk hzv xk xv
    cases p
    · go_enter Tryz.func60, Tryz.ntmps60
      go_wp2_with fail
      refine (check_any false k v _ hk hv).mono ?_
      rintro E w1 ⟨rfl, bel1⟩
      rw [HC.out]
      have sz1 := bel1.size
      have blk1 := (bel1.block w.heap.size (by omega)).trans blk0
      have c0 : w1.cell? ⟨w.heap.size, 0, none⟩ = some (.bool false) := blk_cell blk1 0 rfl
      have c1 : w1.cell? ⟨w.heap.size, 1, none⟩ = some (.string k) := blk_cell blk1 1 rfl
      have belA : Below w.heap.size w w1 := bel0.trans (bel1.mono (by omega))
      clear hw0 blk0 blk1 d0 d1 d2
      go_wp2_with fail
      refine (XK.out _).mono ?_
      rintro E w2 ⟨rfl, bel2⟩
      go_wp2
      go_ret2
      refine ⟨_, rfl, ?_, belA.trans (bel2.mono belA.size)⟩
      rw [← HZK.out]
      simp [txt]
    · go_enter Tryz.func60, Tryz.ntmps60
      go_wp2_with fail
      refine (check_any true k v _ hk hv).mono ?_
      rintro E w1 ⟨rfl, bel1⟩
      rw [HC.out]
      have sz1 := bel1.size
      have blk1 := (bel1.block w.heap.size (by omega)).trans blk0
      have c0 : w1.cell? ⟨w.heap.size, 0, none⟩ = some (.bool true) := blk_cell blk1 0 rfl
      have c1 : w1.cell? ⟨w.heap.size, 1, none⟩ = some (.string k) := blk_cell blk1 1 rfl
      have c2 : w1.cell? ⟨w.heap.size, 2, none⟩ = some (.string v) := blk_cell blk1 2 rfl
      have belA : Below w.heap.size w w1 := bel0.trans (bel1.mono (by omega))
      have hlt1 : w.heap.size < w1.heap.size := by omega
      clear hw0 blk0 blk1 d0 d1 d2
      go_wp2_with fail
      go_region_with ((first
        | (go_at_call_of 59 (Value.string k); refine (XK.out _).mono ?_; rintro E wk ⟨rfl, belk'⟩; have belk : Below w1.heap.size w1 wk := (by first | exact ((Below.refl _ _).drew).trans belk' | exact belv.trans (belk'.mono belv.size)); have c1k := (belk.cell (p := ⟨w.heap.size, 1, none⟩) hlt1).trans c1; have c2k := (belk.cell (p := ⟨w.heap.size, 2, none⟩) hlt1).trans c2; clear belk')
        | (go_at_call_of 59 (Value.string v); refine (XV.out _).mono ?_; rintro E wv ⟨rfl, belv'⟩; have belv : Below w1.heap.size w1 wv := (by first | exact ((Below.refl _ _).drew).trans belv' | exact belk.trans (belv'.mono belk.size)); have c1v := (belv.cell (p := ⟨w.heap.size, 1, none⟩) hlt1).trans c1; have c2v := (belv.cell (p := ⟨w.heap.size, 2, none⟩) hlt1).trans c2; clear belv')))
      all_goals
        go_wp2
        go_ret2
        refine ⟨_, rfl, ?_, belA.trans (by first | exact belk.mono belA.size | exact belv.mono belA.size)⟩
        rw [← HZK.out, ← HZV.out]
        simp [txt]
  · rw [txd_no hc, hc]
    have HC := hide hc
    clear hc
    go_enter Tryz.func60, Tryz.ntmps60
    go_wp2_with fail
    refine (check_any p k v _ hk hv).mono ?_
    rintro E w1 ⟨rfl, bel1⟩
    rw [HC.out]
    go_wp2
    go_ret2
    exact ⟨⟨#[]⟩, rfl, rfl, bel0.trans (bel1.mono bel0.size)⟩

end Go.Proofs.YtdlogcdpapknaaaGreatDoor
