/- The walk of LetterNames. -/
import Derived.Test.YtjaiemdefngbbaaXBackW
import Derived.Test.YtjaiemdefngbbaaXq
namespace Go.Proofs.Ytjaiemdefngbbaa
open Go.RowKit
set_option linter.unusedVariables false

/-- The delete of k. -/
def kO : Bm.Ov := ⟨false, ⟨#[107]⟩, ⟨#[]⟩⟩
theorem kO_ok : Bm.chkL [kO] = 0 := by decide
theorem kO_fit (j : Nat) (h : j < 6) : CFit 1 ((j : Int) + 1) [kO] := cfit_ok (by rw [Cm.chk_in (by omega)]; exact kO_ok)

/-- The first commits. -/
def fiveV (k : Nat) : List Cm.Cv := (List.range k).map fun (j : Nat) => (⟨1, (j : Int) + 1, [kO]⟩ : Cm.Cv)
theorem five_len (k : Nat) : (fiveV k).length = k := by simp [fiveV]
theorem five_snoc (k : Nat) : fiveV (k + 1) = fiveV k ++ [⟨1, (k : Int) + 1, [kO]⟩] := by simp [fiveV, List.range_succ]
theorem five_good : ∀ k, k ≤ 6 → Cm.Good 0 0 (fiveV k) ∧ Cm.lastN 0 (fiveV k) = k ∧ Cm.lastE 0 (fiveV k) ≤ 1
  | 0, _ => by simp [fiveV, Cm.Good, Cm.lastN, Cm.lastE]
  | k + 1, h => by
    obtain ⟨h1, h2, h3⟩ := five_good k (by omega)
    rw [five_snoc]
    refine ⟨(Cm.good_app _ _ _ _).2 ⟨h1, ?_, ?_, ?_, trivial⟩, ?_, ?_⟩
    · show Cm.chk 1 ((k : Int) + 1) [kO] = 0
      rw [Cm.chk_in (by omega)]
      exact kO_ok
    · rw [h2]; show (k : Int) + 1 - 1 = k; omega
    · exact h3
    · rw [(Cm.last_snoc _ _ 0 0).2]; show (k : Int) + 1 = ((k + 1 : Nat) : Int); omega
    · rw [(Cm.last_snoc _ _ 0 0).1]; show (1 : Int) ≤ 1; omega

theorem five_e (k : Nat) : ∀ c ∈ fiveV k, c.e ≤ 1 := fun c hc => by
  simp only [fiveV, List.mem_map] at hc
  obtain ⟨j, _, rfl⟩ := hc
  exact Int.le_refl _

/-- A ship of these. -/
def shF (v : Value) (cs : List Cw) : Mw := ⟨2, 1, 0, 0, .slice none 0 0, [], 1, 0, v, cs⟩

theorem shF_ok {v : Value} {cs : List Cw} {k : Nat} (h : cvs cs = fiveV k) (hk : k ≤ 4) : Mm.Ok (shF v cs).m := by
  refine ⟨by show (1 : Int) ≤ 1; decide, by show (1 : Int) ≤ 1048576; decide, .inr (.inl ⟨rfl, by show (1 : Int) ≤ 1; decide, by show (1 : Int) ≤ 1048576; decide, by show (0 : Int) ≤ 0; decide, by show (0 : Int) ≤ 1; decide, by show ((0 : Int) = 0 ↔ (1 : Int) = 1); simp, ?_, ?_, ?_, rfl, rfl, rfl⟩)⟩
  · show (cvs cs).length ≤ 4
    rw [h, five_len]; exact hk
  · show ∀ c ∈ cvs cs, c.e ≤ 1
    rw [h]; exact five_e k
  · show Cm.Good 0 (1 - 1) (cvs cs)
    rw [h]; exact (five_good k (by omega)).1

theorem shF_no {v : Value} {cs : List Cw} (h : cvs cs = fiveV 5) : ¬ Mm.Ok (shF v cs).m := fun k => by
  rcases k.2.2 with ⟨e, _⟩ | ⟨_, g⟩ | ⟨e, _⟩
  · have : (2 : Int) = 1 := e; omega
  · have g6 : (cvs cs).length ≤ 4 := g.2.2.2.2.2.1
    rw [h, five_len] at g6; omega
  · have : (2 : Int) = 3 := e; omega

theorem fit_lits {k e r n f p : Nat} {vs vc : Value} {cs : List Cw} (h1 : k ≤ 4) (h2 : e ≤ 10) (h3 : r ≤ 3) (h4 : n ≤ 10) (h5 : f ≤ 10) (h6 : p ≤ 10) (h8 : FitC cs) (h9 : cs.length ≤ 140737488355328) : FitM ⟨k, e, r, n, vs, [], f, p, vc, cs⟩ :=
  ⟨nat64 (by omega), nat64 (by omega), by simp, by simp; omega, nat64 (by omega), nat64 (by omega), nat64 (by omega), by simp, h8, h9⟩

theorem shF_enc (v : Value) : Mm.enc (shF v []).m = [2, 1, 1, 0, 0] := by
  unfold Mm.enc
  rw [Mm.hd_2 rfl]
  simp [shF, Mw.m, cvs, Pm.encs, Fm.cat, Vm.enc_lo]

theorem enc_head {m : Mm.Msg} (h : Mm.Ok m) : ∃ t, Mm.enc m = m.k :: t := by
  have hk := Mm.sh_k (Mm.ok_sh h)
  have e : ∃ l, Mm.hd m = m.k :: l := by
    rcases hk with k | k | k
    · exact ⟨_, Mm.hd_1 k⟩
    · exact ⟨_, Mm.hd_2 k⟩
    · exact ⟨_, Mm.hd_3 k⟩
  obtain ⟨l, e⟩ := e
  unfold Mm.enc
  rw [e]
  have : Vm.enc m.k.toNat = [m.k] := by
    rw [Vm.enc_lo (by omega)]
    have : ((m.k.toNat : Nat) : Int) = m.k := by omega
    rw [this]
  simp only [Pm.encs]
  rw [this]
  exact ⟨_, rfl⟩

/-- The messages that may not be. -/
def bK : Nat → Nat
  | 0 => 2
  | 1 => 3
  | 2 => 2
  | 3 => 0
  | 4 => 4
  | _ => 3
def bE : Nat → Nat
  | 0 => 1
  | 1 => 1
  | 2 => 1
  | 3 => 0
  | 4 => 1
  | _ => 0
def bR : Nat → Nat
  | 0 => 0
  | 1 => 2
  | 2 => 0
  | 3 => 0
  | 4 => 0
  | _ => 0
def bF : Nat → Nat
  | 0 => 1
  | 1 => 0
  | 2 => 1
  | 3 => 0
  | 4 => 0
  | _ => 0
def bP : Nat → Nat
  | 0 => 1
  | 1 => 0
  | 2 => 0
  | 3 => 0
  | 4 => 0
  | _ => 0
def bA (x : Option Addr) : Nat → Option Addr
  | 2 => x
  | _ => none
def bL (x : Nat) : Nat → Nat
  | 2 => x
  | _ => 0
def bS (x : List Cw) : Nat → List Cw
  | 2 => x
  | _ => []

theorem bad_8 {w : World} {B k xl xc : Nat} {xa : Option Addr} (hB : w.heap[B]? = some (.cells #[.int .i64 2, .int .i64 1, .int .u8 0, .int .i64 0, .slice none 0 0, .int .i64 1, .int .i64 1, .slice none 0 0, .int .i64 3, .int .i64 1, .int .u8 2, .int .i64 0, .slice none 0 0, .int .i64 0, .int .i64 0, .slice none 0 0, .int .i64 2, .int .i64 1, .int .u8 0, .int .i64 0, .slice none 0 0, .int .i64 1, .int .i64 0, .slice xa xl xc, .int .i64 0, .int .i64 0, .int .u8 0, .int .i64 0, .slice none 0 0, .int .i64 0, .int .i64 0, .slice none 0 0, .int .i64 4, .int .i64 1, .int .u8 0, .int .i64 0, .slice none 0 0, .int .i64 0, .int .i64 0, .slice none 0 0, .int .i64 3, .int .i64 0, .int .u8 0, .int .i64 0, .slice none 0 0, .int .i64 0, .int .i64 0, .slice none 0 0] 30 (0, 0))) (hk : k < 6) :
    w.cell? ⟨B, k * 8, none⟩ = some (.int .i64 (bK k)) ∧ w.cell? ⟨B, k * 8 + 1, none⟩ = some (.int .i64 (bE k)) ∧ w.cell? ⟨B, k * 8 + 2, none⟩ = some (.int .u8 (bR k)) ∧ w.cell? ⟨B, k * 8 + 3, none⟩ = some (.int .i64 0) ∧ w.cell? ⟨B, k * 8 + 4, none⟩ = some (.slice none 0 0) ∧ w.cell? ⟨B, k * 8 + 5, none⟩ = some (.int .i64 (bF k)) ∧ w.cell? ⟨B, k * 8 + 6, none⟩ = some (.int .i64 (bP k)) ∧ w.cell? ⟨B, k * 8 + 7, none⟩ = some (.slice (bA xa k) (bL xl k) (bL xc k)) := by
  have : k = 0 ∨ k = 1 ∨ k = 2 ∨ k = 3 ∨ k = 4 ∨ k = 5 := by omega
  rcases this with rfl | rfl | rfl | rfl | rfl | rfl
  all_goals exact ⟨blk_cell hB _ rfl, blk_cell hB _ rfl, blk_cell hB _ rfl, blk_cell hB _ rfl, blk_cell hB _ rfl, blk_cell hB _ rfl, blk_cell hB _ rfl, blk_cell hB _ rfl⟩

theorem bad_no {k : Nat} {cs : List Cw} (v v' : Value) (h : cvs cs = fiveV 5) (hk : k < 6) : ¬ Mm.Ok (⟨bK k, bE k, bR k, 0, v', [], bF k, bP k, v, bS cs k⟩ : Mw).m := by
  have : k = 0 ∨ k = 1 ∨ k = 2 ∨ k = 3 ∨ k = 4 ∨ k = 5 := by omega
  rcases this with rfl | rfl | rfl | rfl | rfl | rfl
  · rintro ⟨_, _, ⟨e, _⟩ | ⟨_, g⟩ | ⟨e, _⟩⟩
    · simp [Mw.m, bK] at e
    · have := g.2.2.2.2.1
      simp [Mw.m, bP, bF] at this
    · simp [Mw.m, bK] at e
  · rintro ⟨_, _, ⟨e, _⟩ | ⟨e, g⟩ | ⟨_, g⟩⟩
    · simp [Mw.m, bK] at e
    · simp [Mw.m, bK] at e
    · have := g.2.2.1
      simp [Mw.m, bR] at this
  · exact shF_no (v := v) h
  · rintro ⟨e, _⟩
    simp [Mw.m, bE] at e
  · rintro ⟨_, _, ⟨e, _⟩ | ⟨e, g⟩ | ⟨e, g⟩⟩
    · simp [Mw.m, bK] at e
    · simp [Mw.m, bK] at e
    · simp [Mw.m, bK] at e
  · rintro ⟨e, _⟩
    simp [Mw.m, bE] at e

theorem bad_small (k : Nat) : bK k ≤ 4 ∧ bE k ≤ 10 ∧ bR k ≤ 3 ∧ bF k ≤ 10 ∧ bP k ≤ 10 := by
  unfold bK bE bR bF bP
  split <;> simp

theorem bad_is {w : World} {cs : List Cw} {xa : Option Addr} {xl xc : Nat} (h : IsC w (.slice xa xl xc) cs) (hf : FitC cs) (hl : cs.length = 5) (k : Nat) : IsC w (.slice (bA xa k) (bL xl k) (bL xc k)) (bS cs k) ∧ FitC (bS cs k) ∧ (bS cs k).length ≤ 5 := by
  by_cases h2 : k = 2
  · subst h2
    exact ⟨h, hf, by show cs.length ≤ 5; omega⟩
  · have e1 : bA xa k = none := by unfold bA; split <;> simp_all
    have e2 : ∀ x, bL x k = 0 := by intro x; unfold bL; split <;> simp_all
    have e3 : bS cs k = [] := by unfold bS; split <;> simp_all
    rw [e1, e2, e2, e3]
    exact ⟨IsC.nil _, fun c hc => by simp at hc, by simp⟩

/-- The front of the commits, in a ship. -/
theorem five_front {w : World} {b n cap : Nat} {o : Nat} {cs : List Cw} (h : IsC w (.slice (some ⟨b, o, none⟩) n cap) cs) (hc : cvs cs = fiveV 5) : IsC w (.slice (some ⟨b, o, none⟩) 4 cap) (cs.take 4) ∧ cvs (cs.take 4) = fiveV 4 := by
  have hl : cs.length = 5 := by rw [← cvs_length, hc, five_len]
  refine ⟨⟨h.1.front 4 (by omega), h.2.take 4⟩, ?_⟩
  unfold cvs at *
  rw [List.map_take, hc]
  simp [fiveV, List.range_succ]

def wq1 (i : Nat) : List Int := if i = 0 then [3, 2] else if i = 1 then [4, 1] else if i = 2 then [3, 2, 7, 0] else []

theorem wr_dc (i : Nat) : Mm.Dc (wq1 i) Mm.no 5 := by
  unfold wq1
  split
  · have := Mm.dc_cut exA_ok (k := 2) (by rw [exA_enc]; decide)
    rw [exA_enc] at this
    exact this
  split
  · refine .inr ⟨rfl, rfl, fun m h e => ?_⟩
    obtain ⟨t, ht⟩ := enc_head h
    rw [ht] at e
    have hk := Mm.sh_k (Mm.ok_sh h)
    simp at e
    omega
  split
  · have := Mm.dc_more exA_ok (t := [0]) (by simp)
    rw [exA_enc] at this
    exact this
  · refine .inr ⟨rfl, rfl, fun m h e => ?_⟩
    obtain ⟨t, ht⟩ := enc_head h
    rw [ht] at e
    simp at e

set_option maxRecDepth 100000 in
set_option maxHeartbeats 8000000 in
theorem letterNames_walk (w : World) : Calls Try.prog 3 #[] w fun e w' => e = .returned (.bool true) ∧ Below w.heap.size w w' := by
  have C1 := hide (mencode_any (shF (.slice none 0 0) []) [2, 1, 1, 0, 0] 0 w ⟨RowG.nil _ _, IsC.nil _⟩ (fit_lits (k := 2) (e := 1) (r := 0) (n := 0) (f := 1) (p := 0) (by omega) (by omega) (by omega) (by omega) (by omega) (by omega) (fun c hc => by simp at hc) (by simp)) (.inl ⟨rfl, shF_ok (k := 0) rfl (by omega), (shF_enc _).symm⟩))
  unfold mv shF at C1
  go_enter Try.func3, Try.ntmps3
  go_wp2_with fail
  refine C1.out.mono ?_
  rintro E w1 ⟨va, rfl, own1, bel1⟩
  have sz1 := bel1.size
  obtain ⟨w2, hw2, sz2', bel2, own2⟩ := own_step .u8 5 w1 #[.int .u8 2, .int .u8 1, .int .u8 1, .int .u8 0, .int .u8 0] 5 [2, 1, 1, 0, 0] rfl rfl (by simp [maxLen]) (by decide)
  have sz2 : w1.heap.size ≤ w2.heap.size := by omega
  have C2 := hide (same_yes _ _ [2, 1, 1, 0, 0] [2, 1, 1, 0, 0] w2 (own1.below bel2).is own2.is (by simp) rfl)
  have bel02 := bel1.trans (bel2.mono (by omega))
  clear C1 own1 own2 bel1 bel2 sz2'
  go_wp2_with fail
  refine C2.out.mono ?_
  rintro E w3 ⟨rfl, bel3⟩
  have sz3 := bel3.size
  have bel03 := bel02.trans (bel3.mono (by omega))
  clear C2 bel02 bel3 hw2
  go_wp2
  go_loopw [5, 6] (fun fv i wr => ∃ (k : Nat) (cs : List Cw), k ≤ 5 ∧ i = .int .i64 ((k : Int) + 1) ∧ Below w.heap.size w wr ∧ w3.heap.size ≤ wr.heap.size ∧ Hid (ShS w.heap.size wr fv cs ∧ cvs cs = fiveV k)) (fun _ i _ => 6 - (intOf i).toNat)
  case atStart => exact ⟨0, [], by omega, rfl, bel03, Nat.le_refl _, hide ⟨ShS.nil _ _, rfl⟩⟩
  case round =>
    obtain ⟨k, cs, hk, rfl, bel, szr, HS⟩ := hrel
    have sz0 := bel.size
    by_cases hlt : k < 5
    · have hlt' : (k : Int) + 1 ≤ 5 := by omega
      have hln : cs.length = k := by rw [← cvs_length, HS.out.2, five_len]
      obtain ⟨z1, hz1, sz1', bz1, oz1⟩ := ops_step 33 wr #[.bool false, .string ⟨#[107]⟩, .string ⟨#[]⟩] 1 [kO] rfl rfl (by simp [maxLen])
      obtain ⟨z2, hz2, sz2', bz2, oz2⟩ := coms_step 36 z1 #[.int .i64 1, .int .i64 ((k : Int) + 1), .slice (some ⟨wr.heap.size, 0, none⟩) 1 1] 1 [⟨1, (k : Int) + 1, .slice (some ⟨wr.heap.size, 0, none⟩) 1 1, [kO]⟩] rfl rfl (by simp [maxLen])
      have bz : Below wr.heap.size wr z2 := bz1.trans (bz2.mono (by omega))
      have S2 := hide (HS.out.1.below bz)
      have hO := S2.out.c
      have OO : Hid (OwnO 33 wr.heap.size z2 (.slice (some ⟨wr.heap.size, 0, none⟩) 1 1) [kO]) := hide (oz1.below bz2)
      have HLT : Hid (∀ d ∈ cs, ∀ i, d.v.ownBlock = some i → i < wr.heap.size) := hide fun d hd i hi => (World.ownsRow.lt (HS.out.1.o d hd) i hi).2
      have bel2 : Below w.heap.size w z2 := bel.trans (bz.mono (by omega))
      rw [sz1'] at oz2
      have szz : wr.heap.size + 2 ≤ z2.heap.size := by omega
      clear bz1 bz2 bz sz2' oz1
      go_wp2_with (at_builtin; refine wpList_append_coms rfl (.tmp 29) (.tmp 34) 28 rfl 36 w.heap.size Try.underlying28 Try.info36 _ cs rfl hO _ _ rfl oz2.row (by intro c hc; rw [List.mem_singleton.1 hc]; rfl) (by rw [List.length_singleton]; omega) (by omega) ?_)
      intro v4 z4 own4 bel4 kp4
      have S4 := hide (S2.out.snoc kp4 own4 OO.out (by omega) HLT.out (kO_fit k (by omega)))
      have E4 : Hid (cvs (cs ++ [⟨1, (k : Int) + 1, .slice (some ⟨wr.heap.size, 0, none⟩) 1 1, [kO]⟩]) = fiveV (k + 1)) := hide (by
        rw [five_snoc, ← HS.out.2]
        simp [cvs, Cw.c])
      have bel04 := bel2.trans bel4
      have sz4 := bel4.size
      clear own4 kp4 bel4 oz2 hO S2 OO HLT hz1 hz2
      go_wp2
      go_roundw
      case rel => exact ⟨k + 1, _, by omega, by rw [show (((k + 1 : Nat) : Int)) + 1 = (k : Int) + 1 + 1 by omega], bel04, by omega, hide ⟨S4.out, E4.out⟩⟩
      case measure => simp [intOf]; omega
    · have hk5 : k = 5 := by omega
      subst hk5
      clear hlt
      obtain ⟨wq, hwq⟩ : ∃ x, x = wr := ⟨_, rfl⟩
      subst hwq
      have hln : cs.length = 5 := by rw [← cvs_length, HS.out.2, five_len]
      have ISC : Hid (IsC wq u5 cs) := hide ⟨HS.out.1.c.row, fun c hc => ⟨(HS.out.1.o c hc).is, HS.out.1.i c hc⟩⟩
      have CV := hide HS.out.2
      have FC := hide HS.out.1.f
      obtain ⟨g5, c5, hv⟩ : ∃ g c, u5 = .slice (some ⟨g, 0, none⟩) 5 c := by
        rcases HS.out.1.c.2 with ⟨_, e⟩ | ⟨g, cap, cur, hv, _⟩
        · exact absurd hln (by omega)
        · exact ⟨g, cap, by rw [hv, hln]⟩
      subst hv
      have h5 : 5 ≤ c5 := by
        rcases ISC.out.1 with ⟨e, _⟩ | ⟨ad, cap, e, h1, _⟩
        · simp at e
        · simp at e
          omega
      clear HS szr
      obtain ⟨W, hW, szW, belW, blkW⟩ := blk_step wq #[.int .i64 2, .int .i64 1, .int .u8 0, .int .i64 0, .slice none 0 0, .int .i64 1, .int .i64 1, .slice none 0 0, .int .i64 3, .int .i64 1, .int .u8 2, .int .i64 0, .slice none 0 0, .int .i64 0, .int .i64 0, .slice none 0 0, .int .i64 2, .int .i64 1, .int .u8 0, .int .i64 0, .slice none 0 0, .int .i64 1, .int .i64 0, .slice (some ⟨g5, 0, none⟩) 5 c5, .int .i64 0, .int .i64 0, .int .u8 0, .int .i64 0, .slice none 0 0, .int .i64 0, .int .i64 0, .slice none 0 0, .int .i64 4, .int .i64 1, .int .u8 0, .int .i64 0, .slice none 0 0, .int .i64 0, .int .i64 0, .slice none 0 0, .int .i64 3, .int .i64 0, .int .u8 0, .int .i64 0, .slice none 0 0, .int .i64 0, .int .i64 0, .slice none 0 0] 30
      have HBW := hide blkW
      have bel0W : Below w.heap.size w W := bel.trans (belW.mono (by omega))
      have ISW := hide (ISC.out.below belW)
      clear blkW belW ISC bel
      go_wp2
      go_loopw [8] (fun ii wr => ∃ k : Nat, k ≤ 6 ∧ ii = .int .i64 k ∧ Below W.heap.size W wr) (fun ii _ => 6 - (intOf ii).toNat)
      case atStart => exact ⟨0, by omega, rfl, Below.refl _ _⟩
      case round =>
        obtain ⟨k, hk, rfl, belq⟩ := hrel
        clear hW
        have szq := belq.size
        by_cases hlt : k < 6
        · have hlt' : (k : Int) < 6 := by omega
          obtain ⟨f0, f1, f2, f3, f4, f5, f6, f7⟩ := bad_8 ((belq.block wq.heap.size (by omega)).trans HBW.out) hlt
          have hsm := bad_small k
          have hI := bad_is (ISW.out.below belq) FC.out hln k
          have CC := hide (mcheck_any ⟨bK k, bE k, bR k, 0, .slice none 0 0, [], bF k, bP k, .slice (bA (some ⟨g5, 0, none⟩) k) (bL 5 k) (bL c5 k), bS cs k⟩ 2 _ ⟨RowG.nil _ _, hI.1⟩ (fit_lits (n := 0) hsm.1 hsm.2.1 hsm.2.2.1 (by omega) hsm.2.2.2.1 hsm.2.2.2.2 hI.2.1 (by have := hI.2.2; omega)) (.inr ⟨rfl, bad_no _ _ CV.out hlt⟩))
          unfold mv at CC
          clear hI hsm
          generalize bK k = b1 at *
          generalize bE k = b2 at *
          generalize bR k = b3 at *
          generalize bF k = b4 at *
          generalize bP k = b5 at *
          generalize bA (some ⟨g5, 0, none⟩) k = b6 at *
          generalize bL 5 k = b7 at *
          generalize bL c5 k = b8 at *
          go_wp2_with fail
          refine CC.out.mono ?_
          rintro E x1 ⟨rfl, belx⟩
          have bel6 := belq.trans (belx.mono szq)
          clear f0 f1 f2 f3 f4 f5 f6 f7 CC belx
          go_wp2
          go_roundw
          case rel => exact ⟨k + 1, by omega, by go_num, bel6⟩
          case measure => simp [intOf]; omega
        · have hge : ¬ (k : Int) < 6 := by omega
          obtain ⟨wC, hwC⟩ : ∃ x, x = wr := ⟨_, rfl⟩
          subst hwC
          have bel0C : Below w.heap.size w wC := bel0W.trans (belq.mono (by omega))
          have ISR := hide (ISW.out.below belq)
          have szR := bel0C.size
          clear HBW ISW belq bel0W
          obtain ⟨wD, hwD, szD, belD, ownD⟩ := own_step .u8 5 wC #[.int .u8 3, .int .u8 2] 2 [3, 2] rfl rfl (by simp [maxLen]) (bytes_wf (by decide))
          obtain ⟨wE, hwE, szE, belE, ownE⟩ := own_step .u8 5 wD #[.int .u8 4, .int .u8 1] 2 [4, 1] rfl rfl (by simp [maxLen]) (bytes_wf (by decide))
          obtain ⟨wF, hwF, szF, belF, ownF⟩ := own_step .u8 5 wE #[.int .u8 3, .int .u8 2, .int .u8 7, .int .u8 0] 4 [3, 2, 7, 0] rfl rfl (by simp [maxLen]) (bytes_wf (by decide))
          have szC' : wD.heap.size = wC.heap.size + 1 := szD
          have szC'' : wE.heap.size = wC.heap.size + 1 + 1 := by omega
          rw [szC'] at ownE
          rw [szC''] at ownF
          obtain ⟨wG, hwG, szG, belG, blkG⟩ := blk_step wF #[.slice (some ⟨wC.heap.size, 0, none⟩) 2 2, .slice (some ⟨wC.heap.size + 1, 0, none⟩) 2 2, .slice (some ⟨wC.heap.size + 1 + 1, 0, none⟩) 4 4, .slice none 0 0] 22
          have HTAB : Hid (∀ i, i < 4 → ∃ u, wG.cell? ⟨wF.heap.size, i, none⟩ = some u ∧ Is .u8 wG u (wq1 i)) := by
            intro i hi
            have : i = 0 ∨ i = 1 ∨ i = 2 ∨ i = 3 := by omega
            have i0 := (((ownD.is.below belE).below belF)).below belG
            have i1 := (ownE.is.below belF).below belG
            have i2 := ownF.is.below belG
            rcases this with rfl | rfl | rfl | rfl
            · exact ⟨_, blk_cell blkG 0 rfl, i0⟩
            · exact ⟨_, blk_cell blkG 1 rfl, i1⟩
            · exact ⟨_, blk_cell blkG 2 rfl, i2⟩
            · exact ⟨_, blk_cell blkG 3 rfl, Is.nil _ _⟩
          have belCG : Below wC.heap.size wC wG := ((belD.trans (belE.mono (by omega))).trans (belF.mono (by omega))).trans (belG.mono (by omega))
          have bel0G : Below w.heap.size w wG := bel0C.trans (belCG.mono (by omega))
          have ISG := hide (ISR.out.below belCG)
          have hszF : wF.heap.size < wG.heap.size := by omega
          clear ownD ownE ownF belD belE belF belG blkG bel0C belCG ISR
          go_wp2
          go_loopw [10] (fun ii wr2 => ∃ j : Nat, j ≤ 4 ∧ ii = .int .i64 j ∧ Below wG.heap.size wG wr2) (fun ii _ => 4 - (intOf ii).toNat)
          case atStart => exact ⟨0, by omega, rfl, Below.refl _ _⟩
          case round =>
            obtain ⟨j, hj, rfl, belr⟩ := hrel
            have szr := belr.size
            by_cases hltj : j < 4
            · have hltj' : (j : Int) < 4 := by omega
              obtain ⟨u, hu, hui⟩ := HTAB.out j hltj
              have hu2 := (belr.cell (p := ⟨wF.heap.size, j, none⟩) hszF).trans hu
              rw [show wF.heap.size = wC.heap.size + 1 + 1 + 1 by omega] at hu2
              have hui2 := hui.below belr
              have hlw : (wq1 j).length ≤ 4 := by
                have : j = 0 ∨ j = 1 ∨ j = 2 ∨ j = 3 := by omega
                rcases this with rfl | rfl | rfl | rfl <;> simp [wq1]
              have CD := hide (mdecode_any u (wq1 j) _ hui2 (by omega) Mm.no 5 (wr_dc j))
              clear hui hui2 hu
              go_wp2_with fail
              refine CD.out.mono ?_
              rintro E w5 ⟨q, rfl, H5⟩
              have sz5 := H5.out.2.2.2.size
              have O5 := hide H5.out.2.1
              have bel5 := belr.trans (H5.out.2.2.2.mono szr)
              clear H5 CD
              obtain ⟨ao8, cap8, hvs8, _, _⟩ := O5.out.is.s.shape
              obtain ⟨aq8, caq8, hvc8, _, _⟩ := O5.out.is.c.1.shape
              have HMV8 : Hid (mv q = .agg #[.int .i64 q.k, .int .i64 q.e, .int .u8 q.r, .int .i64 q.n, .slice ao8 q.ss.length cap8, .int .i64 q.f, .int .i64 q.p, .slice aq8 q.cs.length caq8]) := hide (mv_eq hvs8 hvc8)
              rw [HMV8.out]
              obtain ⟨V8, hV8', hV8, szV8', belV8, hM8, _⟩ := new8 w5 30 (.int .i64 0) (.int .i64 0) (.int .u8 0) (.int .i64 0) (.slice none 0 0) (.int .i64 0) (.int .i64 0) (.slice none 0 0) (.int .i64 q.k) (.int .i64 q.e) (.int .u8 q.r) (.int .i64 q.n) (.slice ao8 q.ss.length cap8) (.int .i64 q.f) (.int .i64 q.p) (.slice aq8 q.cs.length caq8)
              have belJ := bel5.trans (belV8.mono bel5.size)
              clear hM8 hvs8 hvc8 O5 belV8 bel5 hu2
              go_wp2
              go_roundw
              case rel => exact ⟨j + 1, by omega, by go_num, belJ⟩
              case measure => simp [intOf]; omega
            · have hgej : ¬ (j : Int) < 4 := by omega
              obtain ⟨wS, hwS⟩ : ∃ x, x = wr := ⟨_, rfl⟩
              subst hwS
              have belS : Below w.heap.size w wS := bel0G.trans (belr.mono (by omega))
              have szS := belS.size
              have ISS := hide (ISG.out.below belr)
              clear belr bel0G HTAB ISG
              go_wp2_with fail
              refine (lives_any wS).mono ?_
              rintro E wT ⟨rfl, belT⟩
              have szT := belT.size
              have bel0T := belS.trans (belT.mono szS)
              have HF := hide (five_front (ISS.out.below belT) CV.out)
              have CC := hide (mcheck_any (shF (.slice (some ⟨g5, 0, none⟩) 4 c5) (cs.take 4)) 0 wT ⟨RowG.nil _ _, HF.out.1⟩ (fit_lits (k := 2) (e := 1) (r := 0) (n := 0) (f := 1) (p := 0) (by omega) (by omega) (by omega) (by omega) (by omega) (by omega) (FC.out.take 4) (by rw [List.length_take]; omega)) (.inl ⟨rfl, shF_ok (k := 4) HF.out.2 (by omega)⟩))
              unfold mv shF at CC
              have hsl := run_frontC g5 0 5 c5 4 (by omega)
              have hk4 : (4 : Int) ≤ (c5 : Int) := by omega
              clear ISS belT
              go_wp2_with fail
              refine CC.out.mono ?_
              rintro E wU ⟨rfl, belU⟩
              have bel0U := bel0T.trans (belU.mono (by omega))
              clear CC hsl
              go_wp2
              go_ret
              exact ⟨rfl, bel0U⟩

end Go.Proofs.Ytjaiemdefngbbaa
