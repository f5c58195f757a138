/- The contract of the document's Read. -/
import Derived.Test.YtaejecompbmhcaaOpd
namespace Go.Proofs.Ytaejecompbmhcaa
open Go.RowKit
set_option linter.unusedVariables false

set_option maxHeartbeats 1000000 in
theorem oreadR_any (vb : Value) (bs : List Int) (w : World) (hb : Is .u8 w vb bs) (hl : bs.length ≤ 140737488355328) :
    Calls Try.prog 23 #[vb] w fun E w' => ∃ (p : Bool) (k v : ByteArray) (n e : Int), E = .returned (.tuple #[opv p k v, .int .i64 n, .int .i64 e]) ∧ Om.ORes bs p k.data.toList v.data.toList n e ∧ Below w.heap.size w w' := by
  unfold opv
  obtain ⟨ao, cap, rfl, _, _⟩ := hb.shape
  obtain ⟨W, hW, szW, belW, blkW⟩ := blk_step w #[.bool false, .string ⟨#[]⟩, .string ⟨#[]⟩] 23
  obtain ⟨W1, hW1, sz1, bel1, blk1⟩ := blk_step W #[.slice ao bs.length cap, .int .i64 0, .bool false] 72
  have r1 : Rdr w W1 W.heap.size (.slice ao bs.length cap) bs 0 false := ⟨hb, by omega, belW.trans (bel1.mono (by omega)), blk1, by omega⟩
  rw [szW] at r1
  have blkR := (bel1.block w.heap.size (by omega)).trans blkW
  go_enter Try.func23, Try.ntmps23
  go_wp2_with fail
  refine (onext_any w W1 (w.heap.size + 1) _ bs 0 false r1 hl).mono ?_
  rintro E w2 ⟨p, k, v, a', bad', rfl, r2, g2, hN⟩
  unfold opv
  have blkR2 := (g2.block w.heap.size (blk_lt blkR) (by simp)).trans blkR
  have bel2 : Below w.heap.size w w2 := (belW.trans (bel1.mono (by omega))).grown g2 (by omega) (fun k hk => by simp at hk; omega)
  have sz2 := bel2.size
  have hlt2 := r2.lt
  obtain ⟨W3, hW3, sz3, bel3, blk3⟩ := blk_step w2 #[.bool p, .string k, .string v] 23
  have r3 := r2.below bel3
  have blkR3 := (bel3.block w.heap.size (blk_lt blkR2)).trans blkR2
  have belA : Below w.heap.size w W3 := bel2.trans (bel3.mono (by omega))
  have c1 := r3.cell1
  have c2 := r3.cell2
  have o0 : W3.cell? ⟨w2.heap.size, 0, none⟩ = some (.bool p) := blk_cell blk3 0 rfl
  have o1 : W3.cell? ⟨w2.heap.size, 1, none⟩ = some (.string k) := blk_cell blk3 1 rfl
  have o2 : W3.cell? ⟨w2.heap.size, 2, none⟩ = some (.string v) := blk_cell blk3 2 rfl
  have O0 := blk_froz blk3 0
  have O1 := blk_froz blk3 1
  have O2 := blk_froz blk3 2
  have e0 : W3.setCell ⟨w2.heap.size, 0, none⟩ (.bool p) = W3 := set_same blk3 (j := 0) rfl
  have e1 : W3.setCell ⟨w2.heap.size, 1, none⟩ (.string k) = W3 := set_same blk3 (j := 1) rfl
  have e2 : W3.setCell ⟨w2.heap.size, 2, none⟩ (.string v) = W3 := set_same blk3 (j := 2) rfl
  have R0 : W3.cell? ⟨w.heap.size, 0, none⟩ = some (.bool false) := blk_cell blkR3 0 rfl
  have R1 : W3.cell? ⟨w.heap.size, 1, none⟩ = some (.string ⟨#[]⟩) := blk_cell blkR3 1 rfl
  have R2 : W3.cell? ⟨w.heap.size, 2, none⟩ = some (.string ⟨#[]⟩) := blk_cell blkR3 2 rfl
  have F0 := blk_froz blkR3 0
  have F1 := blk_froz blkR3 1
  have F2 := blk_froz blkR3 2
  have HN : Hid (∃ n e : Int, Om.ORes bs p k.data.toList v.data.toList n e ∧ bad' = decide (e ≠ 0) ∧ (e = 0 → (a' : Int) = n)) := by
    rcases hN with ⟨h, _⟩ | ⟨_, n, e, h1, h2, h3⟩
    · simp at h
    · exact ⟨n, e, by simpa using h1, h2, fun h => by have := h3 h; omega⟩
  clear hN r1 r2 r3 blkR blkR2 blk1 blk3 blkW bel1 bel2 bel3 belW g2
  cases bad'
  · obtain ⟨V', hV', bV', gV'⟩ := put3 blkR3 (.bool p) (.string k) (.string v)
    have k0 : V'.cell? ⟨w.heap.size, 0, none⟩ = some (.bool p) := blk_cell bV' 0 rfl
    have k1 : V'.cell? ⟨w.heap.size, 1, none⟩ = some (.string k) := blk_cell bV' 1 rfl
    have k2 : V'.cell? ⟨w.heap.size, 2, none⟩ = some (.string v) := blk_cell bV' 2 rfl
    have belV : Below w.heap.size w V' := belA.grown gV' (by omega) (fun k hk => by simp at hk; omega)
    have kc : V'.cell? ⟨w.heap.size + 1, 1, none⟩ = some (.int .i64 a') := (World.cell?_of_block (w := W3) (a := ⟨w.heap.size + 1, 1, none⟩) (gV'.block (w.heap.size + 1) (by omega) (by simp))).trans c1
    clear bV' gV' blkR3
    go_wp2_with fail
    go_region
    all_goals
      go_wp2
      refine bodyPost_ret (v := .tuple #[.agg #[.bool p, .string k, .string v], .int .i64 a', .int .i64 0]) (by simp [results, Try.results23, go_sem, k0, k1, k2]) rfl ?_
      obtain ⟨n, e, h1, h2, h3⟩ := HN.out
      have he : e = 0 := by simpa using h2.symm
      subst he
      refine ⟨_, _, _, _, _, rfl, ?_, belV.drew⟩
      rw [h3 rfl]
      exact h1
  · obtain ⟨V', hV', bV', gV'⟩ := put3 blkR3 (.bool false) (.string ⟨#[]⟩) (.string ⟨#[]⟩)
    have k0 : V'.cell? ⟨w.heap.size, 0, none⟩ = some (.bool false) := blk_cell bV' 0 rfl
    have k1 : V'.cell? ⟨w.heap.size, 1, none⟩ = some (.string ⟨#[]⟩) := blk_cell bV' 1 rfl
    have k2 : V'.cell? ⟨w.heap.size, 2, none⟩ = some (.string ⟨#[]⟩) := blk_cell bV' 2 rfl
    have belV : Below w.heap.size w V' := belA.grown gV' (by omega) (fun k hk => by simp at hk; omega)
    clear bV' gV' blkR3
    go_wp2
    refine bodyPost_ret (v := .tuple #[.agg #[.bool false, .string ⟨#[]⟩, .string ⟨#[]⟩], .int .i64 0, .int .i64 5]) (by simp [results, Try.results23, go_sem, k0, k1, k2]) rfl ?_
    refine ⟨_, _, _, _, _, rfl, ?_, belV⟩
    obtain ⟨n, e, h1, h2, _⟩ := HN.out
    have he : e ≠ 0 := by simpa using h2.symm
    rcases h1 with ⟨h, _⟩ | ⟨_, _, _, _, _, h⟩
    · exact absurd h he
    · exact .inr ⟨rfl, rfl, rfl, rfl, rfl, h⟩

end Go.Proofs.Ytaejecompbmhcaa
