/- The program's disk: Write, whatever the disk and the file. -/
import Derived.Test.YtimmohpnlieefaaPw
namespace Go.Proofs.Ytimmohpnlieefaa
open Go.RowKit Go.Shelf
set_option linter.unusedVariables false
attribute [local go_sem] Oper.semAt_some

set_option maxRecDepth 100000 in
set_option maxHeartbeats 2000000 in
theorem write_any (p : Nat) (F : Nat → Prop) (w : World) (st : Dm.Ds) (file : Int) (vb : Value) (bs : List Int) (h : Pk p F w st) (hb : Is .u8 w vb bs) (hbF : 0 < bs.length → ∀ b, vb.ownBlock = some b → ¬ F b) (hLm : bs.length ≤ 1000000)
    (hw : st.wait.length + cnt bs.length ≤ 1000000) (hl : st.left ≤ 9223372036854775807) (hc : st.count + cnt bs.length < 9223372036854775807) :
    Calls Try.prog 45 #[.pointer (some ⟨p, 0, none⟩), .int .i64 file, vb] w fun E w' => E = .returned (.int .i64 (Dm.write st file bs).1) ∧ PStep p F w w' (Dm.write st file bs).2 := by
  unfold Dm.write
  obtain ⟨w1, hw1, sz1, bel1, B1⟩ := blk_step w #[.pointer (some ⟨p, 0, none⟩)] 27
  obtain ⟨w2, hw2, sz2, bel2, B2⟩ := blk_step w1 #[.int .i64 file] 3
  obtain ⟨w3, hw3, sz3, bel3, B3⟩ := blk_step w2 #[.int .i64 0] 24
  rw [sz1] at B2 bel2
  rw [show w2.heap.size = w.heap.size + 2 by omega] at B3 bel3
  have bel03 : Below w.heap.size w w3 := (bel1.trans (bel2.mono (by omega))).trans (bel3.mono (by omega))
  have HR := hide (refuses_any p F w3 st (h.below bel03))
  have HF := hide (isfile_any file w3)
  have HK := hide h
  replace sz2 : w2.heap.size = w.heap.size + 2 := by omega
  replace sz3 : w3.heap.size = w.heap.size + 3 := by omega
  have C0 : w3.cell? ⟨w.heap.size, 0, none⟩ = some (.pointer (some ⟨p, 0, none⟩)) := by
    have e1 := (bel2.block w.heap.size (by omega)).trans B1
    exact blk_cell ((bel3.block w.heap.size (by omega)).trans e1) 0 rfl
  have C1 : w3.cell? ⟨w.heap.size + 1, 0, none⟩ = some (.int .i64 file) := blk_cell ((bel3.block (w.heap.size + 1) (by omega)).trans B2) 0 rfl
  have C2 : w3.cell? ⟨w.heap.size + 2, 0, none⟩ = some (.int .i64 0) := blk_cell B3 0 rfl
  have f2 := blk_froz B3 0
  have hend : ∀ e : Int, Below w.heap.size w (w3.setCell ⟨w.heap.size + 2, 0, none⟩ (.int .i64 e)) ∧ (w3.setCell ⟨w.heap.size + 2, 0, none⟩ (.int .i64 e)).cell? ⟨w.heap.size + 2, 0, none⟩ = some (.int .i64 e) := fun e =>
    ⟨bel03.grown (grown_setCell w3 ⟨w.heap.size + 2, 0, none⟩ _) (by omega) fun k hk => by simp at hk; omega, blk_cell (set_cells B3 0 (.int .i64 e)) 0 (by simp)⟩
  have HE := hide hend
  cases hon : st.on
  · rw [if_pos rfl]
    have hk := ask_off hon
    clear h hon hend B1 B2 B3
    refine (callsIn_wide (n := 6)).1 ?_
    refine callsIn_of_wp_marks Try.func45 rfl trivial ?_ rfl
    simp only [Try.ntmps45, List.size_toArray, List.length_cons, List.length_nil, Nat.reduceAdd, Nat.reduceSub, Array.replicate_succ, Array.replicate_zero, List.push_toArray, List.append_toArray, List.nil_append, List.cons_append]
    gi_wp2_with fail
    refine ⟨trivial, (callsIn_wide.2 HR.out).mono ?_⟩
    rintro E w' ⟨rfl, rfl⟩
    rw [hk]
    gi_wp2
    obtain ⟨b6, c6⟩ := HE.out 6
    refine ⟨.int .i64 6, ?_, rfl, PStep.same HK.out b6⟩
    simp [results, Try.results45, go_sem, c6]
  · rw [if_neg (by simp)]
    have hk := ask_on hon
    cases hin : Dm.inF file
    · rw [if_pos rfl]
      rw [hin] at HF
      clear h hon hend B1 B2 B3 hin
      refine (callsIn_wide (n := 6)).1 ?_
      refine callsIn_of_wp_marks Try.func45 rfl trivial ?_ rfl
      simp only [Try.ntmps45, List.size_toArray, List.length_cons, List.length_nil, Nat.reduceAdd, Nat.reduceSub, Array.replicate_succ, Array.replicate_zero, List.push_toArray, List.append_toArray, List.nil_append, List.cons_append]
      gi_wp2_with fail
      refine ⟨trivial, (callsIn_wide.2 HR.out).mono ?_⟩
      rintro E w' ⟨rfl, rfl⟩
      rw [hk]
      gi_wp2_with fail
      refine ⟨trivial, (callsIn_wide.2 HF.out).mono ?_⟩
      rintro E w' ⟨rfl, rfl⟩
      gi_wp2
      obtain ⟨b6, c6⟩ := HE.out 2
      refine ⟨.int .i64 2, ?_, rfl, PStep.same HK.out b6⟩
      simp [results, Try.results45, go_sem, c6]
    · rw [if_neg (by simp)]
      obtain ⟨f, hf, rfl⟩ := inF_nat hin
      rw [Int.toNat_natCast, wrt_pieces]
      exact wgo_any p F w st f hf vb bs h hon hb hbF hLm hw hl hc

end Go.Proofs.Ytimmohpnlieefaa
