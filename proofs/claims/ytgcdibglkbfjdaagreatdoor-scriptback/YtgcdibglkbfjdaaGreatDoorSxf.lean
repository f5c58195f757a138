/- Package script (layer 25): the reader's op, over the program. -/
import Derived.Test.YtgcdibglkbfjdaaGreatDoorSxe
namespace Go.Proofs.YtgcdibglkbfjdaaGreatDoor
open Go.RowKit
set_option linter.unusedVariables false
set_option maxRecDepth 100000

set_option maxHeartbeats 2000000 in
theorem rop_any (w0 w : World) (g : Nat) (ws : List ByteArray) (bad : Bool) (hz : ∀ s ∈ ws, s.size ≤ 65536) (h : Rd w0 w g ws bad) :
    Calls Tryz.prog 84 #[.pointer (some ⟨g, 0, none⟩)] w fun E w' => ∃ o ws' bad', E = .returned (opv o.p o.k o.v) ∧ OpP ws bad o ws' bad' ∧ Rd w0 w' g ws' bad' ∧ w.grownBy w' (some g) := by
  obtain ⟨W, hW, szW, belW, blkW⟩ := blk_step w #[.bool false, .string ⟨#[]⟩, .string ⟨#[]⟩] 77
  have hz1 : ∀ s ∈ ws.tail, s.size ≤ 65536 := fun s hs => hz s (List.mem_of_mem_tail hs)
  have hz2 : ∀ s ∈ ws.tail.tail, s.size ≤ 65536 := fun s hs => hz1 s (List.mem_of_mem_tail hs)
  have hgl := h.lt
  have hw0 := h.bel.size
  have hW1 := hide (rword_any w0 W g ws bad (h.below belW))
  obtain ⟨s, hs⟩ : ∃ s, ws.headD ⟨#[]⟩ = s := ⟨_, rfl⟩
  rw [hs] at hW1
  have G0 := grown_of_below belW (some g)
  clear h
  cases hp : (s.toList == [112, 117, 116])
  · cases hd : (s.toList == [100, 101, 108])
    · have O := opP_no (ws := ws) (bad := bad) (by rw [hs, ← Lib.toList_data]; exact beq_eq_false_iff_ne.1 hp) (by rw [hs, ← Lib.toList_data]; exact beq_eq_false_iff_ne.1 hd)
      go_enter Tryz.func84, Tryz.ntmps84
      go_wp2_with fail
      refine hW1.out.mono ?_
      rintro E w1 ⟨rfl, R1, G1⟩
      clear hW1
      have B1 := (G1.block w.heap.size (by omega) (by simp; omega)).trans blkW
      have R2 := R1.put true
      have G2 := grown_trans G1 (grown_setCell w1 ⟨g, 1, none⟩ (.bool true))
      obtain ⟨a3, k3, R1⟩ := R1
      have d1 := blk_cell R1.blk 1 rfl
      have f1 := blk_froz R1.blk 1
      obtain ⟨V, hV⟩ : ∃ V, w1.setCell ⟨g, 1, none⟩ (.bool true) = V := ⟨_, rfl⟩
      rw [hV] at R2 G2
      have B2 := (G2.block w.heap.size (by omega) (by simp; omega)).trans blkW
      obtain ⟨V', hV', bV', gV', ⟨a0, a1, a2⟩, ⟨f0, f1', f2⟩, ⟨z0, z1, z2⟩⟩ := res_step B2 (.bool false) (.string ⟨#[]⟩) (.string ⟨#[]⟩)
      have Q := hide (show ∃ o ws' bad', Ending.returned (.agg #[.bool false, .string ⟨#[]⟩, .string ⟨#[]⟩]) = .returned (opv o.p o.k o.v) ∧ OpP ws bad o ws' bad' ∧ Rd w0 V' g ws' bad' ∧ w.grownBy V' (some g) from ⟨_, _, _, rfl, O, R2.grown gV' hw0 (by omega), grown_fresh (grown_trans G0 G2) gV' (Nat.le_refl _)⟩)
      clear R1 R2 G1 G2 B1 B2 O bV' gV' hz hz1 hz2
      go_wp2
      refine bodyPost_ret (v := .agg #[.bool false, .string ⟨#[]⟩, .string ⟨#[]⟩]) (by simp [results, Tryz.results84, go_sem, z0, z1, z2]) rfl ?_
      exact Q.out
    · have hsd : (ws.headD ⟨#[]⟩).data.toList = [100, 101, 108] := by rw [hs, ← Lib.toList_data]; exact beq_iff_eq.1 hd
      go_enter Tryz.func84, Tryz.ntmps84
      go_wp2_with fail
      refine hW1.out.mono ?_
      rintro E w1 ⟨rfl, R1, G1⟩
      clear hW1
      go_wp2_with fail
      refine (rbyts_any w0 w1 g _ _ hz1 R1).mono ?_
      rintro E w2 ⟨k, ok1, rfl, K1, R2, G2⟩
      have G3 := grown_trans G1 G2
      have B2 := (G3.block w.heap.size (by omega) (by simp; omega)).trans blkW
      have O := opP_del (bad := bad) hz hsd K1
      obtain ⟨V', hV', bV', gV', ⟨a0, a1, a2⟩, ⟨f0, f1, f2⟩, ⟨z0, z1, z2⟩⟩ := res_step B2 (.bool false) (.string k) (.string ⟨#[]⟩)
      have Q := hide (show ∃ o ws' bad', Ending.returned (.agg #[.bool false, .string k, .string ⟨#[]⟩]) = .returned (opv o.p o.k o.v) ∧ OpP ws bad o ws' bad' ∧ Rd w0 V' g ws' bad' ∧ w.grownBy V' (some g) from ⟨_, _, _, rfl, O, R2.grown gV' hw0 (by omega), grown_fresh (grown_trans G0 G3) gV' (Nat.le_refl _)⟩)
      clear R1 R2 G1 G2 G3 B2 O bV' gV' hz hz1 hz2 K1 hsd
      go_wp2
      refine bodyPost_ret (v := .agg #[.bool false, .string k, .string ⟨#[]⟩]) (by simp [results, Tryz.results84, go_sem, z0, z1, z2]) rfl ?_
      exact Q.out
  · have hsd : (ws.headD ⟨#[]⟩).data.toList = [112, 117, 116] := by rw [hs, ← Lib.toList_data]; exact beq_iff_eq.1 hp
    go_enter Tryz.func84, Tryz.ntmps84
    go_wp2_with fail
    refine hW1.out.mono ?_
    rintro E w1 ⟨rfl, R1, G1⟩
    clear hW1
    go_wp2_with fail
    refine (rbyts_any w0 w1 g _ _ hz1 R1).mono ?_
    rintro E w2 ⟨k, ok1, rfl, K1, R2, G2⟩
    go_wp2_with fail
    refine (rbyts_any w0 w2 g _ _ hz2 R2).mono ?_
    rintro E w3 ⟨v, ok2, rfl, K2, R3, G3⟩
    have G4 := grown_trans (grown_trans G1 G2) G3
    have B2 := (G4.block w.heap.size (by omega) (by simp; omega)).trans blkW
    have O := opP_put (bad := bad) hz hsd K1 K2
    obtain ⟨V', hV', bV', gV', ⟨a0, a1, a2⟩, ⟨f0, f1, f2⟩, ⟨z0, z1, z2⟩⟩ := res_step B2 (.bool true) (.string k) (.string v)
    have Q := hide (show ∃ o ws' bad', Ending.returned (.agg #[.bool true, .string k, .string v]) = .returned (opv o.p o.k o.v) ∧ OpP ws bad o ws' bad' ∧ Rd w0 V' g ws' bad' ∧ w.grownBy V' (some g) from ⟨_, _, _, rfl, O, R3.grown gV' hw0 (by omega), grown_fresh (grown_trans G0 G4) gV' (Nat.le_refl _)⟩)
    clear R1 R2 R3 G1 G2 G3 G4 B2 O bV' gV' hz hz1 hz2 K1 K2 hsd
    go_wp2
    refine bodyPost_ret (v := .agg #[.bool true, .string k, .string v]) (by simp [results, Tryz.results84, go_sem, z0, z1, z2]) rfl ?_
    exact Q.out

end Go.Proofs.YtgcdibglkbfjdaaGreatDoor
