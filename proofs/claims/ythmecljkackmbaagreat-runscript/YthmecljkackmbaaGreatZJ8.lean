/- Texts of one layer, one behind the other. -/
import Derived.Test.YthmecljkackmbaaGreatZW
import Derived.Test.YthmecljkackmbaaGreatProg
import Derived.Test.YthmecljkackmbaaGreatZJ7
/- The steps of a region of the pair's call. -/
namespace Go.Proofs.YthmecljkackmbaaGreat
open Go.RowKit
set_option linter.unusedVariables false

theorem wzj_new : Array.replicate 16 false = lst 16 0 := by kernel_rfl

theorem wzj_size : (regOf 8 Tryz.f44).size = 16 := by kernel_rfl

theorem wzj_t0_0 : Region.free .any (regOf 8 Tryz.f44) (lst 16 0) 0 = true ∧ (Region.ready .any (regOf 8 Tryz.f44) (lst 16 0)).contains 0 = true ∧ (lst 16 0).setIfInBounds 0 true = lst 16 1 := ⟨by kernel_rfl, by kernel_rfl, by kernel_rfl⟩

theorem wzj_t1_1 : Region.free .any (regOf 8 Tryz.f44) (lst 16 1) 1 = true ∧ (Region.ready .any (regOf 8 Tryz.f44) (lst 16 1)).contains 1 = true ∧ (lst 16 1).setIfInBounds 1 true = lst 16 3 := ⟨by kernel_rfl, by kernel_rfl, by kernel_rfl⟩

theorem wzj_t3_2 : Region.free .any (regOf 8 Tryz.f44) (lst 16 3) 2 = true ∧ (Region.ready .any (regOf 8 Tryz.f44) (lst 16 3)).contains 2 = true ∧ (lst 16 3).setIfInBounds 2 true = lst 16 7 := ⟨by kernel_rfl, by kernel_rfl, by kernel_rfl⟩

theorem wzj_t7_3 : Region.free .any (regOf 8 Tryz.f44) (lst 16 7) 3 = true ∧ (Region.ready .any (regOf 8 Tryz.f44) (lst 16 7)).contains 3 = true ∧ (lst 16 7).setIfInBounds 3 true = lst 16 15 := ⟨by kernel_rfl, by kernel_rfl, by kernel_rfl⟩

theorem wzj_t15_4 : Region.free .any (regOf 8 Tryz.f44) (lst 16 15) 4 = true ∧ (Region.ready .any (regOf 8 Tryz.f44) (lst 16 15)).contains 4 = true ∧ (lst 16 15).setIfInBounds 4 true = lst 16 31 := ⟨by kernel_rfl, by kernel_rfl, by kernel_rfl⟩

theorem wzj_t31_5 : Region.free .any (regOf 8 Tryz.f44) (lst 16 31) 5 = true ∧ (Region.ready .any (regOf 8 Tryz.f44) (lst 16 31)).contains 5 = true ∧ (lst 16 31).setIfInBounds 5 true = lst 16 63 := ⟨by kernel_rfl, by kernel_rfl, by kernel_rfl⟩

theorem wzj_t63_6 : Region.free .any (regOf 8 Tryz.f44) (lst 16 63) 6 = true ∧ (Region.ready .any (regOf 8 Tryz.f44) (lst 16 63)).contains 6 = true ∧ (lst 16 63).setIfInBounds 6 true = lst 16 127 := ⟨by kernel_rfl, by kernel_rfl, by kernel_rfl⟩

theorem wzj_t127_7 : Region.free .any (regOf 8 Tryz.f44) (lst 16 127) 7 = true ∧ (Region.ready .any (regOf 8 Tryz.f44) (lst 16 127)).contains 7 = true ∧ (lst 16 127).setIfInBounds 7 true = lst 16 255 := ⟨by kernel_rfl, by kernel_rfl, by kernel_rfl⟩

theorem wzj_t255_8 : Region.free .any (regOf 8 Tryz.f44) (lst 16 255) 8 = true ∧ (Region.ready .any (regOf 8 Tryz.f44) (lst 16 255)).contains 8 = true ∧ (lst 16 255).setIfInBounds 8 true = lst 16 511 := ⟨by kernel_rfl, by kernel_rfl, by kernel_rfl⟩

theorem wzj_t511_9 : Region.free .any (regOf 8 Tryz.f44) (lst 16 511) 9 = true ∧ (Region.ready .any (regOf 8 Tryz.f44) (lst 16 511)).contains 9 = true ∧ (lst 16 511).setIfInBounds 9 true = lst 16 1023 := ⟨by kernel_rfl, by kernel_rfl, by kernel_rfl⟩

theorem wzj_t1023_10 : Region.free .any (regOf 8 Tryz.f44) (lst 16 1023) 10 = true ∧ (Region.ready .any (regOf 8 Tryz.f44) (lst 16 1023)).contains 10 = true ∧ (lst 16 1023).setIfInBounds 10 true = lst 16 2047 := ⟨by kernel_rfl, by kernel_rfl, by kernel_rfl⟩

theorem wzj_t2047_11 : Region.free .any (regOf 8 Tryz.f44) (lst 16 2047) 11 = true ∧ (Region.ready .any (regOf 8 Tryz.f44) (lst 16 2047)).contains 11 = true ∧ (lst 16 2047).setIfInBounds 11 true = lst 16 4095 := ⟨by kernel_rfl, by kernel_rfl, by kernel_rfl⟩

theorem wzj_t4095_12 : Region.free .any (regOf 8 Tryz.f44) (lst 16 4095) 12 = true ∧ (Region.ready .any (regOf 8 Tryz.f44) (lst 16 4095)).contains 12 = true ∧ (lst 16 4095).setIfInBounds 12 true = lst 16 8191 := ⟨by kernel_rfl, by kernel_rfl, by kernel_rfl⟩

theorem wzj_t8191_13 : Region.free .any (regOf 8 Tryz.f44) (lst 16 8191) 13 = true ∧ (Region.ready .any (regOf 8 Tryz.f44) (lst 16 8191)).contains 13 = true ∧ (lst 16 8191).setIfInBounds 13 true = lst 16 16383 := ⟨by kernel_rfl, by kernel_rfl, by kernel_rfl⟩

theorem wzj_r16383 : Region.ready .any (regOf 8 Tryz.f44) (lst 16 16383) = [14] ∧ (lst 16 16383).setIfInBounds 14 true = lst 16 32767 := ⟨by kernel_rfl, by kernel_rfl⟩

theorem wzj_t32767_15 : Region.free .any (regOf 8 Tryz.f44) (lst 16 32767) 15 = true ∧ (Region.ready .any (regOf 8 Tryz.f44) (lst 16 32767)).contains 15 = true ∧ (lst 16 32767).setIfInBounds 15 true = lst 16 65535 := ⟨by kernel_rfl, by kernel_rfl, by kernel_rfl⟩

theorem wzj_end : Region.ready .any (regOf 8 Tryz.f44) (lst 16 65535) = [] := by kernel_rfl

end Go.Proofs.YthmecljkackmbaaGreat

/- The steps of a region of the pair's call. -/
namespace Go.Proofs.YthmecljkackmbaaGreat
open Go.RowKit
set_option linter.unusedVariables false

theorem wzk_new : Array.replicate 12 false = lst 12 0 := by kernel_rfl

theorem wzk_size : (regOf 14 Tryz.f44).size = 12 := by kernel_rfl

theorem wzk_t0_0 : Region.free .any (regOf 14 Tryz.f44) (lst 12 0) 0 = true ∧ (Region.ready .any (regOf 14 Tryz.f44) (lst 12 0)).contains 0 = true ∧ (lst 12 0).setIfInBounds 0 true = lst 12 1 := ⟨by kernel_rfl, by kernel_rfl, by kernel_rfl⟩

theorem wzk_t1_1 : Region.free .any (regOf 14 Tryz.f44) (lst 12 1) 1 = true ∧ (Region.ready .any (regOf 14 Tryz.f44) (lst 12 1)).contains 1 = true ∧ (lst 12 1).setIfInBounds 1 true = lst 12 3 := ⟨by kernel_rfl, by kernel_rfl, by kernel_rfl⟩

theorem wzk_t3_2 : Region.free .any (regOf 14 Tryz.f44) (lst 12 3) 2 = true ∧ (Region.ready .any (regOf 14 Tryz.f44) (lst 12 3)).contains 2 = true ∧ (lst 12 3).setIfInBounds 2 true = lst 12 7 := ⟨by kernel_rfl, by kernel_rfl, by kernel_rfl⟩

theorem wzk_t7_3 : Region.free .any (regOf 14 Tryz.f44) (lst 12 7) 3 = true ∧ (Region.ready .any (regOf 14 Tryz.f44) (lst 12 7)).contains 3 = true ∧ (lst 12 7).setIfInBounds 3 true = lst 12 15 := ⟨by kernel_rfl, by kernel_rfl, by kernel_rfl⟩

theorem wzk_t15_4 : Region.free .any (regOf 14 Tryz.f44) (lst 12 15) 4 = true ∧ (Region.ready .any (regOf 14 Tryz.f44) (lst 12 15)).contains 4 = true ∧ (lst 12 15).setIfInBounds 4 true = lst 12 31 := ⟨by kernel_rfl, by kernel_rfl, by kernel_rfl⟩

theorem wzk_t31_5 : Region.free .any (regOf 14 Tryz.f44) (lst 12 31) 5 = true ∧ (Region.ready .any (regOf 14 Tryz.f44) (lst 12 31)).contains 5 = true ∧ (lst 12 31).setIfInBounds 5 true = lst 12 63 := ⟨by kernel_rfl, by kernel_rfl, by kernel_rfl⟩

theorem wzk_t63_6 : Region.free .any (regOf 14 Tryz.f44) (lst 12 63) 6 = true ∧ (Region.ready .any (regOf 14 Tryz.f44) (lst 12 63)).contains 6 = true ∧ (lst 12 63).setIfInBounds 6 true = lst 12 127 := ⟨by kernel_rfl, by kernel_rfl, by kernel_rfl⟩

theorem wzk_t127_7 : Region.free .any (regOf 14 Tryz.f44) (lst 12 127) 7 = true ∧ (Region.ready .any (regOf 14 Tryz.f44) (lst 12 127)).contains 7 = true ∧ (lst 12 127).setIfInBounds 7 true = lst 12 255 := ⟨by kernel_rfl, by kernel_rfl, by kernel_rfl⟩

theorem wzk_r255 : Region.ready .any (regOf 14 Tryz.f44) (lst 12 255) = [8] ∧ (lst 12 255).setIfInBounds 8 true = lst 12 511 := ⟨by kernel_rfl, by kernel_rfl⟩

theorem wzk_t511_9 : Region.free .any (regOf 14 Tryz.f44) (lst 12 511) 9 = true ∧ (Region.ready .any (regOf 14 Tryz.f44) (lst 12 511)).contains 9 = true ∧ (lst 12 511).setIfInBounds 9 true = lst 12 1023 := ⟨by kernel_rfl, by kernel_rfl, by kernel_rfl⟩

theorem wzk_t1023_10 : Region.free .any (regOf 14 Tryz.f44) (lst 12 1023) 10 = true ∧ (Region.ready .any (regOf 14 Tryz.f44) (lst 12 1023)).contains 10 = true ∧ (lst 12 1023).setIfInBounds 10 true = lst 12 2047 := ⟨by kernel_rfl, by kernel_rfl, by kernel_rfl⟩

theorem wzk_t2047_11 : Region.free .any (regOf 14 Tryz.f44) (lst 12 2047) 11 = true ∧ (Region.ready .any (regOf 14 Tryz.f44) (lst 12 2047)).contains 11 = true ∧ (lst 12 2047).setIfInBounds 11 true = lst 12 4095 := ⟨by kernel_rfl, by kernel_rfl, by kernel_rfl⟩

theorem wzk_end : Region.ready .any (regOf 14 Tryz.f44) (lst 12 4095) = [] := by kernel_rfl

end Go.Proofs.YthmecljkackmbaaGreat

/- The pair: a run is flushed. -/
namespace Go.Proofs.YthmecljkackmbaaGreat
open Go.RowKit
open Bm (Ov)
set_option linter.unusedVariables false

set_option maxRecDepth 20000 in
set_option maxHeartbeats 8000000 in
theorem rcall0 (w0 : World) (r : Nat) (w : World) (s : Rl.Rs) (p q x y : Nat) (F G : Nat → Prop) (h : RP w0 r w s s p q x y F G) (k : Nat) (hin : RIn k s) (hk : k ≤ 90) (a : Ac) (ha : AcOk w0 a) (hfit : FitO a.c.l) (h40 : a.c.l.length ≤ 40) (hp : pk a.k 5 = 0) :
    Calls Tryz.prog 44 #[.pointer (some ⟨r, 0, none⟩), acv a] w fun E w' => E = .returned (.bool true) ∧ PD w0 r q y k w' := by
  unfold acv
  obtain ⟨ao, cap, hcv, _, _⟩ := ha.1.shape
  obtain ⟨w1, hw1, sz1, bel1, hB⟩ := blk_step w #[.int .i64 a.k, .int .i64 a.n, .int .i64 a.t, .int .i64 a.c.e, .int .i64 a.c.n, a.c.v] 95
  have c0 : w1.cell? ⟨w.heap.size, 0, none⟩ = some (.int .i64 a.k) := blk_cell hB 0 rfl
  have c3 : w1.cell? ⟨w.heap.size, 3, none⟩ = some (.int .i64 a.c.e) := blk_cell hB 3 rfl
  have c4 : w1.cell? ⟨w.heap.size, 4, none⟩ = some (.int .i64 a.c.n) := blk_cell hB 4 rfl
  have c5 : w1.cell? ⟨w.heap.size, 5, none⟩ = some a.c.v := blk_cell hB 5 rfl
  have PK : Hid (∀ W, Calls Tryz.prog 28 #[.int .i64 a.k, .int .i64 5] W fun E w' => E = .returned (.int .i64 0) ∧ W = w') := hide fun W => by
    have := pickx_any a.k 5 W (by decide) (by decide) ha.2.1.1
    rw [hp] at this
    exact this
  obtain ⟨U, hX1, hX2, szX, belX, bX, x0, x1, x2⟩ := new_step w1 93 (.int .i64 0) (.int .i64 0) (.slice none 0 0) (.int .i64 a.c.e) (.int .i64 a.c.n) a.c.v
  have b0 : U.cell? ⟨w.heap.size, 0, none⟩ = some (.int .i64 a.k) := blk_cell ((belX.block w.heap.size (by omega)).trans hB) 0 rfl
  have bU : Below w.heap.size w U := bel1.trans (belX.mono bel1.size)
  have RB := hide (hin.rbig (by omega))
  have HIN := hide hin
  have HLF := hide h.ww.lt
  have HLG := hide h.xx.lt
  have HRW := hide (show r < w.heap.size from blk_lt h.blk)
  have HW0 := hide h.bel.size
  have HR := hide h
  have HA := hide ha
  have HFT := hide hfit
  have SZ := hide (show w1.heap.size = w.heap.size + 1 ∧ U.heap.size = w1.heap.size + 1 from ⟨sz1, szX⟩)
  rw [hcv] at hw1 c5 hX1 hX2 bX x2 ⊢
  have HCV := hide hcv
  have PU : Hid (U.heap[w1.heap.size]? = some (.cells #[.int .i64 a.c.e, .int .i64 a.c.n, .slice ao a.c.l.length cap] 93 (0, 0))) := hide bX
  have HP := hide (h.below bU)
  have IOP : Hid (IsO U (.slice ao a.c.l.length cap) a.c.l) := hide (by rw [← hcv]; exact ha.1.below (h.below bU).bel)
  have NB : Hid (0 < a.c.l.length → ∀ b, (Value.slice ao a.c.l.length cap).ownBlock = some b → ¬ F b ∧ ¬ G b) := hide fun hl b hb => by
    have h1 := isO_lt (b := b) ha.1 hl (by rw [hcv]; exact hb)
    exact ⟨fun e => by have := h.fb b e; omega, fun e => by have := h.gb b e; omega⟩
  have FT : Hid (FitO a.c.l ∧ a.c.l.length ≤ 40 ∧ In64 a.c.e ∧ In64 a.c.n) := hide ⟨hfit, h40, ha.2.2⟩
  have BW := hide bU
  clear h hin hB hcv ha hfit hp bel1 belX bX bU sz1 szX
  go_enter Tryz.func44, Tryz.ntmps44
  go_wp2_with fail
  refine (PK.out _).mono ?_
  rintro E w2 ⟨rfl, rfl⟩
  go_wp2_with fail
  refine (PK.out _).mono ?_
  rintro E w2 ⟨rfl, rfl⟩
  clear PK hX1 hX2 c0 c3 c4 c5 b0
  have G5 : Hid (¬ F w1.heap.size ∧ ¬ G w1.heap.size ∧ w1.heap.size ≠ r ∧ w0.heap.size ≤ w1.heap.size) := hide (by
    have h7 := SZ.out.1
    have h6 := HRW.out
    have h5 := HW0.out
    exact ⟨fun e => by have := HLF.out _ e; omega, fun e => by have := HLG.out _ e; omega, by omega, by omega⟩)
  have LB : Hid (0 < (a.c.l).length → ∀ b, (Value.slice ao (a.c.l).length cap).ownBlock = some b → b < U.heap.size) := hide fun hl b hb => isO_lt IOP.out hl hb
  generalize hcl : a.c.l = cl at *
  generalize hnn : a.c.n = nn at *
  generalize hne : a.c.e = ne at *
  generalize ao = va at *
  generalize cap = vk at *
  generalize hg5 : w1.heap.size = g5 at *
  clear hcl hne hnn hg5
  have u2 : U.cell? ⟨g5, 2, none⟩ = some (.slice va cl.length vk) := blk_cell PU.out 2 rfl
  have LN := hide (lentO_any (.slice va cl.length vk) cl U IOP.out (by have := FT.out.2.1; omega))
  go_wp2_with fail
  refine LN.out.mono ?_
  rintro E w7 ⟨v7, rfl, own7, bel7⟩
  generalize hn : cl.length = n at *
  obtain ⟨g7, k7, hv7, hc7, hm7, hb7, hl7⟩ := own_fullO own7 (n := n + 3) (by simp [hn]) (by omega)
  subst hv7
  have hn40 : n ≤ 40 := FT.out.2.1
  have hsl : ∀ wx, (Instr.slice 53 (.slice (some ⟨g7, 0, none⟩) (n + 3) k7) none (some (.int .i64 n)) none).run Tryz.prog wx = .ok (.slice (some ⟨g7, 0, none⟩) n k7) wx := front_run g7 (n + 3) k7 n (by omega) hc7
  have ISL : Hid (IsO w7 (.slice (some ⟨g7, 0, none⟩) n k7) cl) := hide (by
    have := own7.is.front n (by simp [hn])
    rwa [← hn, List.take_left, hn] at this)
  have sz7 := bel7.size
  have P7 := hide (HP.out.below bel7)
  have B7 := hide ((bel7.block g5 (blk_lt PU.out)).trans PU.out)
  have I7 := hide (IOP.out.below bel7)
  have O7 := hide own7
  have BU := hide (show w.heap.size ≤ U.heap.size from BW.out.size)
  have HG5 : Hid (g5 < U.heap.size) := hide (blk_lt PU.out)
  have FLW : Hid (∀ W, Below w7.heap.size w7 W → Calls Tryz.prog 54 #[.pointer (some ⟨p, 0, none⟩), .agg #[.int .i64 ne, .int .i64 nn, .slice (some ⟨g7, 0, none⟩) n k7]] W fun E w' => E = .returned (.int .i64 (Rl.flu s ⟨ne, nn, cl⟩).1) ∧ ∃ F', RP w0 r w' (Rl.flu s ⟨ne, nn, cl⟩).2 s p q x y F' G ∧ (∀ g, F' g → F g ∨ w7.heap.size ≤ g) ∧ OwnO 81 U.heap.size w' (.slice (some ⟨g7, 0, none⟩) (n + 3) k7) (cl ++ [behind, behind, behind]) ∧ w'.heap[g5]? = some (.cells #[.int .i64 ne, .int .i64 nn, .slice va n vk] 93 (0, 0)) ∧ IsO w' (.slice va n vk) cl) := hide fun W hW => by
    have hP := P7.out.below hW
    have hO := O7.out.below hW
    have hBW := (hW.block g5 (blk_lt B7.out)).trans B7.out
    have hI := I7.out.below hW
    have z1 := BU.out
    refine (hP.callW (hflush_any p q F W s ⟨ne, nn, .slice (some ⟨g7, 0, none⟩) n k7, cl⟩ hP.ww RB.out (ISL.out.below hW) FT.out.1 FT.out.2.2 (by show cl.length * 40 ≤ _; omega) (fun _ b hb hf => by
      have j1 : g7 = b := by simpa [Value.ownBlock] using hb
      have j2 := HLF.out b hf
      omega))).mono ?_
    rintro E w' ⟨rfl, F', k1, o1, s1⟩
    refine ⟨rfl, F', k1, fun g hg => (s1 g hg).imp id fun e => Nat.le_trans hW.size e, row_agree hO fun b hb => o1.block b (OwnO.block hO b hb).2 fun e => ?_, (o1.block g5 (blk_lt hBW) G5.out.1).trans hBW, hI.out o1 fun hl b hb => (NB.out (by omega) b hb).1⟩
    have j1 := (OwnO.block hO b hb).1
    have j2 := HLF.out b e
    omega
  have FLX : Hid (∀ W F', RP w0 r W (Rl.flu s ⟨ne, nn, cl⟩).2 s p q x y F' G → W.heap[g5]? = some (.cells #[.int .i64 ne, .int .i64 nn, .slice va n vk] 93 (0, 0)) → IsO W (.slice va n vk) cl → Calls Tryz.prog 99 #[.pointer (some ⟨x, 0, none⟩), .agg #[.int .i64 ne, .int .i64 nn, .slice va n vk]] W fun E w' => E = .returned (.int .i64 (Rl.flu s ⟨ne, nn, cl⟩).1) ∧ PD w0 r q y k w' ∧ w'.cell? ⟨r, 3, none⟩ = some (.pointer (some ⟨x, 0, none⟩)) ∧ w'.cell? ⟨g5, 0, none⟩ = some (.int .i64 ne) ∧ w'.cell? ⟨g5, 1, none⟩ = some (.int .i64 nn) ∧ w'.cell? ⟨g5, 2, none⟩ = some (.slice va n vk)) := hide fun W F' hP hBW hI => by
    refine (hP.callX (xflush_any x y G W s ⟨ne, nn, .slice va n vk, cl⟩ hP.xx RB.out hI FT.out.1 FT.out.2.2 (by show cl.length * 40 ≤ _; omega) (fun hl b hb => (NB.out (by have : cl.length = n := hn; show 0 < n; rw [← this]; exact hl) b hb).2))).mono ?_
    rintro E w' ⟨rfl, G', k1, o1, _⟩
    have f2 := (o1.block g5 (blk_lt hBW) G5.out.2.1).trans hBW
    exact ⟨rfl, ⟨_, p, x, F', G', k1, rin_flu HIN.out (by show cl.length ≤ 40; omega)⟩, k1.cells.2.2.2, blk_cell f2 0 rfl, blk_cell f2 1 rfl, blk_cell f2 2 rfl⟩
  have SY : Hid (∀ W, Below w7.heap.size w7 W → W.cell? ⟨r, 1, none⟩ = some (.pointer (some ⟨p, 0, none⟩)) ∧ W.cell? ⟨g5, 0, none⟩ = some (.int .i64 ne) ∧ W.cell? ⟨g5, 1, none⟩ = some (.int .i64 nn) ∧ W.cell? ⟨g5, 2, none⟩ = some (.slice va n vk)) := hide fun W hW => by
    have hBW := (hW.block g5 (blk_lt B7.out)).trans B7.out
    exact ⟨(P7.out.below hW).cells.2.1, blk_cell hBW 0 rfl, blk_cell hBW 1 rfl, blk_cell hBW 2 rfl⟩
  obtain ⟨W0, hW0⟩ : ∃ x, w7.drew = x := ⟨_, rfl⟩
  have bel0 : Below w7.heap.size w7 W0 := by rw [← hW0]; exact (Below.refl _ _).drew
  generalize hz : (Rl.flu s ⟨ne, nn, cl⟩).1 = z at *
  have HN := hide hn
  clear hz own7 bel7 LN u2 PU HP IOP hn
  go_wp2_with fail
  refine region_any (ops := (regOf 8 Tryz.f44)) (S := fun W => W.cell? ⟨r, 1, none⟩ = some (.pointer (some ⟨p, 0, none⟩)) ∧ W.cell? ⟨g5, 0, none⟩ = some (.int .i64 ne) ∧ W.cell? ⟨g5, 1, none⟩ = some (.int .i64 nn) ∧ W.cell? ⟨g5, 2, none⟩ = some (.slice va n vk)) (by kernel_rfl) wzj_size ?_
  rw [wzj_new, hW0]
  refine any_take (v := ?_) wzj_t0_0 (by kernel_rfl) (fun _ _ _ _ _ h => h) (SY.out _ bel0) rfl rfl (by rfl) ?_ ?_
  rotate_left 1
  · intro w hS
    (try dsimp only at hS)
    go_simp
    all_goals with_reducible rfl
  simp only [Act.put, List.setIfInBounds_toArray, List.set_cons_zero, List.set_cons_succ]
  refine any_take (v := ?_) wzj_t1_1 (by kernel_rfl) (fun _ _ _ _ _ h => h) (SY.out _ bel0) rfl rfl (by rfl) ?_ ?_
  rotate_left 1
  · intro w hS
    (try dsimp only at hS)
    go_simp
    all_goals with_reducible rfl
  simp only [Act.put, List.setIfInBounds_toArray, List.set_cons_zero, List.set_cons_succ]
  refine any_take (v := ?_) wzj_t3_2 (by kernel_rfl) (fun _ _ _ _ _ h => h) (SY.out _ bel0) rfl rfl (by rfl) ?_ ?_
  rotate_left 1
  · intro w hS
    (try dsimp only at hS)
    go_simp
    all_goals with_reducible rfl
  simp only [Act.put, List.setIfInBounds_toArray, List.set_cons_zero, List.set_cons_succ]
  refine any_take (v := ?_) wzj_t7_3 (by kernel_rfl) (fun _ _ _ _ _ h => h) (SY.out _ bel0) rfl rfl (by rfl) ?_ ?_
  rotate_left 1
  · intro w hS
    (try dsimp only at hS)
    go_simp
    all_goals with_reducible rfl
  simp only [Act.put, List.setIfInBounds_toArray, List.set_cons_zero, List.set_cons_succ]
  refine any_take (v := ?_) wzj_t15_4 (by kernel_rfl) (fun _ _ _ _ _ h => h) (SY.out _ bel0) rfl rfl (by rfl) ?_ ?_
  rotate_left 1
  · intro w hS
    (try dsimp only at hS)
    go_simp
    all_goals with_reducible rfl
  simp only [Act.put, List.setIfInBounds_toArray, List.set_cons_zero, List.set_cons_succ]
  refine any_take (v := ?_) wzj_t31_5 (by kernel_rfl) (fun _ _ _ _ _ h => h) (SY.out _ bel0) rfl rfl (by rfl) ?_ ?_
  rotate_left 1
  · intro w hS
    (try dsimp only at hS)
    go_simp
    all_goals with_reducible rfl
  simp only [Act.put, List.setIfInBounds_toArray, List.set_cons_zero, List.set_cons_succ]
  refine any_take (v := ?_) wzj_t63_6 (by kernel_rfl) (fun _ _ _ _ _ h => h) (SY.out _ bel0) rfl rfl (by rfl) ?_ ?_
  rotate_left 1
  · intro w hS
    (try dsimp only at hS)
    go_simp
    all_goals with_reducible rfl
  simp only [Act.put, List.setIfInBounds_toArray, List.set_cons_zero, List.set_cons_succ]
  refine any_take (v := ?_) wzj_t127_7 (by kernel_rfl) (fun _ _ _ _ _ h => h) (SY.out _ bel0) rfl rfl (by rfl) ?_ ?_
  rotate_left 1
  · intro w hS
    (try dsimp only at hS)
    go_simp
    all_goals with_reducible rfl
  simp only [Act.put, List.setIfInBounds_toArray, List.set_cons_zero, List.set_cons_succ]
  refine any_take (v := ?_) wzj_t255_8 (by kernel_rfl) (fun _ _ _ _ _ h => h) (SY.out _ bel0) rfl rfl (by rfl) ?_ ?_
  rotate_left 1
  · intro w hS
    (try dsimp only at hS)
    go_simp
    all_goals with_reducible rfl
  simp only [Act.put, List.setIfInBounds_toArray, List.set_cons_zero, List.set_cons_succ]
  refine any_take (v := ?_) wzj_t511_9 (by kernel_rfl) (fun _ _ _ _ _ h => h) (SY.out _ bel0) rfl rfl (by rfl) ?_ ?_
  rotate_left 1
  · intro w hS
    (try dsimp only at hS)
    go_simp
    all_goals with_reducible rfl
  simp only [Act.put, List.setIfInBounds_toArray, List.set_cons_zero, List.set_cons_succ]
  refine any_take (v := ?_) wzj_t1023_10 (by kernel_rfl) (fun _ _ _ _ _ h => h) (SY.out _ bel0) rfl rfl (by rfl) ?_ ?_
  rotate_left 1
  · intro w hS
    (try dsimp only at hS)
    go_simp
    all_goals with_reducible rfl
  simp only [Act.put, List.setIfInBounds_toArray, List.set_cons_zero, List.set_cons_succ]
  refine any_take (v := ?_) wzj_t2047_11 (by kernel_rfl) (fun _ _ _ _ _ h => h) (SY.out _ bel0) rfl rfl (by rfl) ?_ ?_
  rotate_left 1
  · intro w hS
    (try dsimp only at hS)
    go_simp
    all_goals with_reducible rfl
  simp only [Act.put, List.setIfInBounds_toArray, List.set_cons_zero, List.set_cons_succ]
  refine any_take (v := ?_) wzj_t4095_12 (by kernel_rfl) (fun _ _ _ _ _ h => h) (SY.out _ bel0) rfl rfl (by rfl) ?_ ?_
  rotate_left 1
  · intro w hS
    (try dsimp only at hS)
    go_simp
    all_goals with_reducible rfl
  simp only [Act.put, List.setIfInBounds_toArray, List.set_cons_zero, List.set_cons_succ]
  refine any_take (v := ?_) wzj_t8191_13 (by kernel_rfl) (fun _ _ _ _ _ h => h) (SY.out _ bel0) rfl rfl (by rfl) ?_ ?_
  rotate_left 1
  · intro w hS
    (try dsimp only at hS)
    go_simp
    all_goals with_reducible rfl
  simp only [Act.put, List.setIfInBounds_toArray, List.set_cons_zero, List.set_cons_succ]
  refine any_one wzj_r16383 ?_
  refine any_op rfl (by rfl) (fun K hK => ?_)
  go_simp
  refine (FLW.out _ bel0).mono ?_
  rintro E W8 ⟨rfl, F8, P8, N8, O8, B8, I8⟩
  go_wp2_with fail
  refine hK.out _ _ ⟨P8.cells.2.1, blk_cell B8 0 rfl, blk_cell B8 1 rfl, blk_cell B8 2 rfl⟩ ?_
  clear hK K
  try simp only [Act.put, List.setIfInBounds_toArray, List.set_cons_zero, List.set_cons_succ]
  refine any_take (v := ?_) wzj_t32767_15 (by kernel_rfl) (fun _ _ _ _ _ h => h) ⟨P8.cells.2.1, blk_cell B8 0 rfl, blk_cell B8 1 rfl, blk_cell B8 2 rfl⟩ rfl rfl (by rfl) ?_ ?_
  rotate_left 1
  · intro w hS
    (try dsimp only at hS)
    go_simp
    all_goals with_reducible rfl
  simp only [Act.put, List.setIfInBounds_toArray, List.set_cons_zero, List.set_cons_succ]
  refine any_done wzj_end ?_
  have P8 := hide P8
  have O8 := hide O8
  have B8 := hide B8
  have I8 := hide I8
  have N8 := hide N8
  have K9 := hide (keptO_yes (.slice (some ⟨g7, 0, none⟩) (n + 3) k7) (.slice va n vk) cl (cl ++ [behind, behind, behind]) W8 O8.out.is I8.out (by have := HN.out; omega) rfl)
  have e2 : W8.cell? ⟨g5, 2, none⟩ = some (.slice va n vk) := blk_cell B8.out 2 rfl
  clear FLW SY bel0 hW0 ISL P7 B7 I7 O7
  go_wp2_with fail
  refine K9.out.mono ?_
  rintro E w9 ⟨rfl, bel9⟩
  have T9 := hide (show RP w0 r w9 (Rl.flu s ⟨ne, nn, cl⟩).2 s p q x y F8 G ∧ OwnO 81 U.heap.size w9 (.slice (some ⟨g7, 0, none⟩) (n + 3) k7) (cl ++ [behind, behind, behind]) ∧ w9.heap[g5]? = some (.cells #[.int .i64 ne, .int .i64 nn, .slice va n vk] 93 (0, 0)) ∧ IsO w9 (.slice va n vk) cl from ⟨P8.out.below bel9, O8.out.below bel9, (bel9.block g5 (blk_lt B8.out)).trans B8.out, I8.out.below bel9⟩)
  clear bel9 P8 O8 B8 I8 K9 e2
  go_wp2
  go_loopw [9] (fun iv wr => ∃ (i : Nat) (l' : List Bm.Ov), i ≤ n + 3 ∧ iv = .int .i64 i ∧ l'.length = n + 3 ∧ Hid (RP w0 r wr (Rl.flu s ⟨ne, nn, cl⟩).2 s p q x y F8 G ∧ OwnO 81 U.heap.size wr (.slice (some ⟨g7, 0, none⟩) (n + 3) k7) l' ∧ wr.heap[g5]? = some (.cells #[.int .i64 ne, .int .i64 nn, .slice va n vk] 93 (0, 0)) ∧ IsO wr (.slice va n vk) cl)) (fun iv _ => n + 3 - (intOf iv).toNat)
  case atStart => exact ⟨0, cl ++ [behind, behind, behind], by omega, rfl, by simp [HN.out], T9⟩
  case round =>
    obtain ⟨i, l', hi, rfl, hll, HT⟩ := hrel
    clear T9
    by_cases hlt : i < n + 3
    · obtain ⟨o, ho⟩ : ∃ o, l'[i]? = some o := ⟨l'[i]'(by omega), by rw [List.getElem?_eq_getElem]⟩
      obtain ⟨⟨m0, m1, m2⟩, ⟨f0, f1, f2⟩⟩ := own_atO HT.out.2.1 hll i o ho
      obtain ⟨W, hW, ownW, gW⟩ := own_putO HT.out.2.1 hll i hlt ⟨false, ⟨#[111, 118, 101, 114]⟩, ⟨#[]⟩⟩
      have oW : Out (fun g => g = g7) wr W := Out.of_grown gW fun g hg => by simp at hg; exact hg.symm
      have HT2 := hide (show RP w0 r W (Rl.flu s ⟨ne, nn, cl⟩).2 s p q x y F8 G ∧ OwnO 81 U.heap.size W (.slice (some ⟨g7, 0, none⟩) (n + 3) k7) (l'.set i ⟨false, ⟨#[111, 118, 101, 114]⟩, ⟨#[]⟩⟩) ∧ W.heap[g5]? = some (.cells #[.int .i64 ne, .int .i64 nn, .slice va n vk] 93 (0, 0)) ∧ IsO W (.slice va n vk) cl from by
        have w00 := HW0.out
        have hbu := BU.out
        have hrb := HRW.out
        have hg5 := HG5.out
        refine ⟨HT.out.1.outside oW fun g e => ?_, ownW, (oW.block g5 (blk_lt HT.out.2.2.1) (by omega)).trans HT.out.2.2.1, HT.out.2.2.2.out oW fun hl b hb e => ?_⟩
        · subst e
          refine ⟨fun e => ?_, fun e => ?_, by omega, by omega⟩
          · rcases N8.out _ e with a | a
            · have := HLF.out _ a
              omega
            · omega
          · have := HLG.out _ e
            omega
        · have := LB.out (by have := HN.out; omega) b hb
          omega)
      have hlt' : (i : Int) < ((n : Int) + 3) := by omega
      have hi0 : (0 : Int) ≤ (i : Int) := by omega
      clear ownW gW oW
      go_wp2
      go_roundw
      case rel => exact ⟨i + 1, _, by omega, by go_num, by rw [List.length_set]; exact hll, HT2⟩
      case measure => simp [intOf]; omega
    · obtain rfl : i = n + 3 := by omega
      have hlt' : ¬ ((n : Int) + 3) < ((n : Int) + 3) := by omega
      obtain ⟨W0, hW0⟩ : ∃ x, wr.drew = x := ⟨_, rfl⟩
      have bel0 : Below wr.heap.size wr W0 := by rw [← hW0]; exact (Below.refl _ _).drew
      have RZ := hide (HT.out.1.below bel0)
      have BZ := hide ((bel0.block g5 (blk_lt HT.out.2.2.1)).trans HT.out.2.2.1)
      have IZ := hide (HT.out.2.2.2.below bel0)
      have hzz : (z == z) = true := by simp
      clear HT bel0
      go_wp2_with fail
      refine region_any (ops := (regOf 14 Tryz.f44)) (S := fun W => W.cell? ⟨r, 3, none⟩ = some (.pointer (some ⟨x, 0, none⟩)) ∧ W.cell? ⟨g5, 0, none⟩ = some (.int .i64 ne) ∧ W.cell? ⟨g5, 1, none⟩ = some (.int .i64 nn) ∧ W.cell? ⟨g5, 2, none⟩ = some (.slice va n vk)) (by kernel_rfl) wzk_size ?_
      rw [wzk_new, hW0]
      refine any_take (v := ?_) wzk_t0_0 (by kernel_rfl) (fun _ _ _ _ _ h => h) ⟨RZ.out.cells.2.2.2, blk_cell BZ.out 0 rfl, blk_cell BZ.out 1 rfl, blk_cell BZ.out 2 rfl⟩ rfl rfl (by rfl) ?_ ?_
      rotate_left 1
      · intro w hS
        (try dsimp only at hS)
        go_simp
        all_goals with_reducible rfl
      simp only [Act.put, List.setIfInBounds_toArray, List.set_cons_zero, List.set_cons_succ]
      refine any_take (v := ?_) wzk_t1_1 (by kernel_rfl) (fun _ _ _ _ _ h => h) ⟨RZ.out.cells.2.2.2, blk_cell BZ.out 0 rfl, blk_cell BZ.out 1 rfl, blk_cell BZ.out 2 rfl⟩ rfl rfl (by rfl) ?_ ?_
      rotate_left 1
      · intro w hS
        (try dsimp only at hS)
        go_simp
        all_goals with_reducible rfl
      simp only [Act.put, List.setIfInBounds_toArray, List.set_cons_zero, List.set_cons_succ]
      refine any_take (v := ?_) wzk_t3_2 (by kernel_rfl) (fun _ _ _ _ _ h => h) ⟨RZ.out.cells.2.2.2, blk_cell BZ.out 0 rfl, blk_cell BZ.out 1 rfl, blk_cell BZ.out 2 rfl⟩ rfl rfl (by rfl) ?_ ?_
      rotate_left 1
      · intro w hS
        (try dsimp only at hS)
        go_simp
        all_goals with_reducible rfl
      simp only [Act.put, List.setIfInBounds_toArray, List.set_cons_zero, List.set_cons_succ]
      refine any_take (v := ?_) wzk_t7_3 (by kernel_rfl) (fun _ _ _ _ _ h => h) ⟨RZ.out.cells.2.2.2, blk_cell BZ.out 0 rfl, blk_cell BZ.out 1 rfl, blk_cell BZ.out 2 rfl⟩ rfl rfl (by rfl) ?_ ?_
      rotate_left 1
      · intro w hS
        (try dsimp only at hS)
        go_simp
        all_goals with_reducible rfl
      simp only [Act.put, List.setIfInBounds_toArray, List.set_cons_zero, List.set_cons_succ]
      refine any_take (v := ?_) wzk_t15_4 (by kernel_rfl) (fun _ _ _ _ _ h => h) ⟨RZ.out.cells.2.2.2, blk_cell BZ.out 0 rfl, blk_cell BZ.out 1 rfl, blk_cell BZ.out 2 rfl⟩ rfl rfl (by rfl) ?_ ?_
      rotate_left 1
      · intro w hS
        (try dsimp only at hS)
        go_simp
        all_goals with_reducible rfl
      simp only [Act.put, List.setIfInBounds_toArray, List.set_cons_zero, List.set_cons_succ]
      refine any_take (v := ?_) wzk_t31_5 (by kernel_rfl) (fun _ _ _ _ _ h => h) ⟨RZ.out.cells.2.2.2, blk_cell BZ.out 0 rfl, blk_cell BZ.out 1 rfl, blk_cell BZ.out 2 rfl⟩ rfl rfl (by rfl) ?_ ?_
      rotate_left 1
      · intro w hS
        (try dsimp only at hS)
        go_simp
        all_goals with_reducible rfl
      simp only [Act.put, List.setIfInBounds_toArray, List.set_cons_zero, List.set_cons_succ]
      refine any_take (v := ?_) wzk_t63_6 (by kernel_rfl) (fun _ _ _ _ _ h => h) ⟨RZ.out.cells.2.2.2, blk_cell BZ.out 0 rfl, blk_cell BZ.out 1 rfl, blk_cell BZ.out 2 rfl⟩ rfl rfl (by rfl) ?_ ?_
      rotate_left 1
      · intro w hS
        (try dsimp only at hS)
        go_simp
        all_goals with_reducible rfl
      simp only [Act.put, List.setIfInBounds_toArray, List.set_cons_zero, List.set_cons_succ]
      refine any_take (v := ?_) wzk_t127_7 (by kernel_rfl) (fun _ _ _ _ _ h => h) ⟨RZ.out.cells.2.2.2, blk_cell BZ.out 0 rfl, blk_cell BZ.out 1 rfl, blk_cell BZ.out 2 rfl⟩ rfl rfl (by rfl) ?_ ?_
      rotate_left 1
      · intro w hS
        (try dsimp only at hS)
        go_simp
        all_goals with_reducible rfl
      simp only [Act.put, List.setIfInBounds_toArray, List.set_cons_zero, List.set_cons_succ]
      refine any_one wzk_r255 ?_
      refine any_op rfl (by rfl) (fun K hK => ?_)
      go_simp
      refine (FLX.out _ F8 RZ.out BZ.out IZ.out).mono ?_
      rintro E W9 ⟨rfl, J, S9⟩
      go_wp2_with fail
      refine hK.out _ _ S9 ?_
      clear hK K
      try simp only [Act.put, List.setIfInBounds_toArray, List.set_cons_zero, List.set_cons_succ]
      refine any_take (v := ?_) wzk_t511_9 (by kernel_rfl) (fun _ _ _ _ _ h => h) S9 rfl rfl (by rfl) ?_ ?_
      rotate_left 1
      · intro w hS
        (try dsimp only at hS)
        go_simp
        all_goals with_reducible rfl
      simp only [Act.put, List.setIfInBounds_toArray, List.set_cons_zero, List.set_cons_succ]
      refine any_take (v := ?_) wzk_t1023_10 (by kernel_rfl) (fun _ _ _ _ _ h => h) S9 rfl rfl (by rfl) ?_ ?_
      rotate_left 1
      · intro w hS
        (try dsimp only at hS)
        go_simp
        all_goals with_reducible rfl
      simp only [Act.put, List.setIfInBounds_toArray, List.set_cons_zero, List.set_cons_succ]
      refine any_take (v := ?_) wzk_t2047_11 (by kernel_rfl) (fun _ _ _ _ _ h => h) S9 rfl rfl (by rfl) ?_ ?_
      rotate_left 1
      · intro w hS
        (try dsimp only at hS)
        go_simp
        all_goals with_reducible rfl
      simp only [Act.put, List.setIfInBounds_toArray, List.set_cons_zero, List.set_cons_succ]
      refine any_done wzk_end ?_
      have J := hide J
      go_wp2
      go_ret
      exact ⟨rfl, J.out⟩

end Go.Proofs.YthmecljkackmbaaGreat
