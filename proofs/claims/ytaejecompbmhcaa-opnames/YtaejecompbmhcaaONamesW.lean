/- The walk of the law OpNames. -/
import Derived.Test.YtaejecompbmhcaaOlive
import Derived.Test.YtaejecompbmhcaaOpc
import Derived.Test.YtaejecompbmhcaaBlk
import Derived.Lib.Repeat
namespace Go.Proofs.Ytaejecompbmhcaa
open Go.RowKit
set_option linter.unusedVariables false

/-- The ops that may not be, of the law's table. -/
def badP : Nat → Bool | 0 => true | 1 => true | 2 => true | _ => false
def badK (s : ByteArray) : Nat → ByteArray | 0 => ⟨#[]⟩ | 1 => s | 2 => ⟨#[107]⟩ | 3 => ⟨#[107]⟩ | _ => ⟨#[]⟩
def badV (s : ByteArray) : Nat → ByteArray | 2 => s | 3 => ⟨#[118]⟩ | _ => ⟨#[]⟩

theorem bad_cell {w : World} {B k : Nat} {s1 s2 : ByteArray} (hB : w.heap[B]? = some (.cells #[.bool true, .string ⟨#[]⟩, .string ⟨#[]⟩, .bool true, .string s1, .string ⟨#[]⟩, .bool true, .string ⟨#[107]⟩, .string s2, .bool false, .string ⟨#[107]⟩, .string ⟨#[118]⟩, .bool false, .string ⟨#[]⟩, .string ⟨#[]⟩] 23 (0, 0))) (hk : k < 5) :
    w.cell? ⟨B, k * 3, none⟩ = some (.bool (badP k)) ∧ w.cell? ⟨B, k * 3 + 1, none⟩ = some (.string (badK s1 k)) ∧ w.cell? ⟨B, k * 3 + 2, none⟩ = some (.string (badV s2 k)) := by
  have : k = 0 ∨ k = 1 ∨ k = 2 ∨ k = 3 ∨ k = 4 := by omega
  rcases this with rfl | rfl | rfl | rfl | rfl
  all_goals exact ⟨blk_cell hB _ rfl, blk_cell hB _ rfl, blk_cell hB _ rfl⟩

theorem bad_chk {k : Nat} {s1 s2 : ByteArray} (h1 : s1.size = 17) (h2 : s2.size = 33) (hk : k < 5) : Om.chk (badP k) (badK s1 k).data.toList (badV s2 k).data.toList = 2 := by
  apply Om.chk_no
  rw [← Lib.size_eq, ← Lib.size_eq]
  have : k = 0 ∨ k = 1 ∨ k = 2 ∨ k = 3 ∨ k = 4 := by omega
  rcases this with rfl | rfl | rfl | rfl | rfl
  · intro h
    have h1 : 1 ≤ (⟨#[]⟩ : ByteArray).size := h.1
    exact absurd h1 (by decide)
  · intro h
    have h2 : s1.size ≤ 16 := h.2.1
    omega
  · intro h
    have h3 : s2.size ≤ 32 := h.2.2.1
    omega
  · intro h
    have h4 : (false = true ∨ ([118] : List UInt8) = []) := h.2.2.2
    rcases h4 with h4 | h4 <;> simp at h4
  · intro h
    have h1 : 1 ≤ (⟨#[]⟩ : ByteArray).size := h.1
    exact absurd h1 (by decide)

theorem bad_size {k : Nat} {s1 s2 : ByteArray} (h1 : s1.size = 17) (h2 : s2.size = 33) (hk : k < 5) : (badK s1 k).size ≤ 140737488351232 ∧ (badV s2 k).size ≤ 140737488351232 := by
  have : k = 0 ∨ k = 1 ∨ k = 2 ∨ k = 3 ∨ k = 4 := by omega
  have e0 : (⟨#[]⟩ : ByteArray).size = 0 := rfl
  have e1 : (⟨#[107]⟩ : ByteArray).size = 1 := rfl
  have e2 : (⟨#[118]⟩ : ByteArray).size = 1 := rfl
  rcases this with rfl | rfl | rfl | rfl | rfl <;> simp only [badK, badV, h1, h2, e0, e1, e2] <;> omega

theorem opEnc_a : Om.opEnc true (⟨#[97]⟩ : ByteArray).data.toList (⟨#[49]⟩ : ByteArray).data.toList = [1, 1, 97, 1, 49] := by decide +kernel

/-- The bytes that begin with no op, of the law's table. -/
def wrongB : Nat → List Int | 0 => [2, 1, 97] | 1 => [0, 0] | 2 => [1, 1, 97, 33] | _ => []

theorem wrong_bad (i : Nat) {p : Bool} {k v : List UInt8} {n e : Int} (hi : i < 4) (h : Om.ORes (wrongB i) p k v n e) : p = false ∧ k = [] ∧ v = [] ∧ n = 0 ∧ e = 5 := by
  rcases h with ⟨_, hc, hp, _⟩ | ⟨rfl, rfl, rfl, rfl, rfl, _⟩
  · exfalso
    have hh := Om.chk_ok' hc
    have e1 := Om.cnt_short (s := k) (by omega)
    have e2 := Om.cnt_short (s := v) (by omega)
    unfold Om.opEnc at hp
    rw [e1] at hp
    have : i = 0 ∨ i = 1 ∨ i = 2 ∨ i = 3 := by omega
    rcases this with rfl | rfl | rfl | rfl
    · simp only [wrongB, List.cons_append, List.cons_prefix_cons] at hp
      have := hp.1
      cases p <;> simp at this
    · simp only [wrongB, List.cons_append, List.cons_prefix_cons] at hp
      omega
    · simp only [wrongB, List.cons_append, List.cons_prefix_cons] at hp
      have hk1 : k.length = 1 := by omega
      have hpt : p = true := by
        have := hp.1
        cases p <;> simp at this
        rfl
      subst hpt
      obtain ⟨c, rfl⟩ : ∃ c, k = [c] := List.length_eq_one_iff.1 hk1
      have h3 := hp.2.2
      simp only [Om.ints, List.map_cons, List.map_nil, List.cons_append, List.nil_append, List.cons_prefix_cons, if_true, e2] at h3
      omega
    · simp [wrongB] at hp
  · exact ⟨rfl, rfl, rfl, rfl, rfl⟩

/-- The texts that are no word, of the law's table. -/
def wrongW : Nat → ByteArray | 0 => ⟨#[92, 50]⟩ | 1 => ⟨#[92, 50, 71]⟩ | 2 => ⟨#[92, 54, 49]⟩ | _ => ⟨#[]⟩

theorem hexd_G (n : Nat) (h : n < 16) : Wm.hexd n ≠ 71 := by
  have : ∀ m, m < 16 → Wm.hexd m ≠ 71 := by decide +kernel
  exact this n h

theorem no_esc {t r : List UInt8} (h : Wm.wd t = 92 :: r) : ∃ (c : UInt8) (q : List UInt8), Wm.plain c = false ∧ r = Wm.hexd (c.toNat / 16) :: Wm.hexd (c.toNat % 16) :: q := by
  by_cases h0 : t = []
  · rw [h0] at h; simp [Wm.wd] at h
  · rw [Wm.wd_full h0] at h
    cases t with
    | nil => exact absurd rfl h0
    | cons c t =>
      rw [Wm.flat_cons] at h
      cases hp : Wm.plain c
      · rw [Wm.esc_other hp] at h
        simp only [List.cons_append, List.nil_append, List.cons.injEq, true_and] at h
        exact ⟨c, _, hp, h.symm⟩
      · rw [Wm.esc_plain hp] at h
        simp only [List.cons_append, List.nil_append, List.cons.injEq] at h
        exact absurd h.1 (Wm.plain_ne c hp).1

theorem wrong_word (i : Nat) {t : List UInt8} {e : Int} (hi : i < 4) (h : Wm.BRes (wrongW i).data.toList t e) : t = [] ∧ e = 5 := by
  rcases h with ⟨_, hw⟩ | ⟨rfl, rfl, _⟩
  · exfalso
    have : i = 0 ∨ i = 1 ∨ i = 2 ∨ i = 3 := by omega
    rcases this with rfl | rfl | rfl | rfl
    · obtain ⟨c, q, _, h⟩ := no_esc (r := [50]) hw
      simp at h
    · obtain ⟨c, q, _, h⟩ := no_esc (r := [50, 71]) hw
      simp only [List.cons.injEq] at h
      exact hexd_G _ (by omega) h.2.1.symm
    · obtain ⟨c, q, hp, h⟩ := no_esc (r := [54, 49]) hw
      simp only [List.cons.injEq] at h
      have hc := c.toNat_lt
      have a1 : c.toNat / 16 = 6 := Wm.hexd_inj (by omega) (by omega) (h.1.symm.trans (by decide))
      have a2 : c.toNat % 16 = 1 := Wm.hexd_inj (by omega) (by omega) (h.2.1.symm.trans (by decide))
      have : c = 97 := UInt8.toNat_inj.1 (by show c.toNat = 97; omega)
      rw [this] at hp
      exact absurd hp (by decide)
    · exact Wm.wd_ne t hw
  · exact ⟨rfl, rfl⟩

theorem repeat_size (c : UInt8) (n : Nat) : (⟨(Lib.repeatL (⟨#[c]⟩ : ByteArray).data.toList n).toArray⟩ : ByteArray).size = n := by
  rw [Lib.size_eq]
  simp [Lib.repeatL_length]

set_option maxRecDepth 100000 in
set_option maxHeartbeats 4000000 in
theorem opNames_walk (w : World) :
    Calls Try.prog 3 #[] w fun E w' => E = .returned (.bool true) ∧ Below w.heap.size w w' := by
  have h17 := repeat_size 107 17
  have h33 := repeat_size 118 33
  obtain ⟨s1, hs1⟩ : ∃ s : ByteArray, (⟨(Lib.repeatL (⟨#[107]⟩ : ByteArray).data.toList 17).toArray⟩ : ByteArray) = s := ⟨_, rfl⟩
  obtain ⟨s2, hs2⟩ : ∃ s : ByteArray, (⟨(Lib.repeatL (⟨#[118]⟩ : ByteArray).data.toList 33).toArray⟩ : ByteArray) = s := ⟨_, rfl⟩
  rw [hs1] at h17
  rw [hs2] at h33
  have HS1 := hide hs1
  have HS2 := hide hs2
  have H17 := hide h17
  have H33 := hide h33
  clear hs1 hs2 h17 h33
  go_enter Try.func3, Try.ntmps3
  go_wp2_with fail
  refine (Try.strings_Repeat ⟨#[107]⟩ 17 _ (by omega) (by simp [ByteArray.size])).mono ?_
  rintro E w1 ⟨rfl, bel1⟩
  rw [HS1.out]
  have sz1 := bel1.size
  go_wp2_with fail
  refine (Try.strings_Repeat ⟨#[118]⟩ 33 _ (by omega) (by simp [ByteArray.size])).mono ?_
  rintro E w2 ⟨rfl, bel2⟩
  rw [HS2.out]
  have sz2 := bel2.size
  obtain ⟨W, hW, szW, belW, blkW⟩ := blk_step w2 #[.bool true, .string ⟨#[]⟩, .string ⟨#[]⟩, .bool true, .string s1, .string ⟨#[]⟩, .bool true, .string ⟨#[107]⟩, .string s2, .bool false, .string ⟨#[107]⟩, .string ⟨#[118]⟩, .bool false, .string ⟨#[]⟩, .string ⟨#[]⟩] 23
  have HBW := hide blkW
  have bel0W : Below w.heap.size w W := (bel1.trans (bel2.mono (by omega))).trans (belW.mono (by omega))
  clear blkW bel1 bel2 belW
  go_wp2
  go_loopw [3] (fun ii wr => ∃ k : Nat, k ≤ 5 ∧ ii = .int .i64 k ∧ Below W.heap.size W wr) (fun ii _ => 5 - (intOf ii).toNat)
  case atStart => exact ⟨0, by omega, rfl, Below.refl _ _⟩
  case round =>
    obtain ⟨k, hk, rfl, bel⟩ := hrel
    clear hW
    have sz := bel.size
    by_cases hlt : k < 5
    · have hlt' : (k : Int) < 5 := by omega
      have cells := bad_cell ((bel.block w2.heap.size (by omega)).trans HBW.out) hlt
      have f0 := cells.1
      have f1 := cells.2.1
      have f2 := cells.2.2
      have hbs := bad_size H17.out H33.out hlt
      have HCK := hide (bad_chk H17.out H33.out hlt)
      clear cells
      generalize badP k = bp at *
      generalize badK s1 k = bk at *
      generalize badV s2 k = bv at *
      go_wp2_with fail
      refine (oapp_any _ [] bp bk bv _ (Is.nil _ _) (by simp) hbs.1 hbs.2).mono ?_
      rintro E w3 ⟨v3, rfl, own3, bel3⟩
      rw [HCK.out]
      have sz3 := bel3.size
      have g0 := (bel3.cell (p := ⟨w2.heap.size, k * 3, none⟩) (by simp; omega)).trans f0
      have g1 := (bel3.cell (p := ⟨w2.heap.size, k * 3 + 1, none⟩) (by simp; omega)).trans f1
      have g2 := (bel3.cell (p := ⟨w2.heap.size, k * 3 + 2, none⟩) (by simp; omega)).trans f2
      have bel4 := bel.trans (bel3.mono sz)
      clear f0 f1 f2 own3 bel3
      go_wp2_with fail
      refine (check_any bp bk bv _ hbs.1 hbs.2).mono ?_
      rintro E w5 ⟨rfl, bel5⟩
      rw [HCK.out]
      have bel6 := bel4.trans (bel5.mono bel4.size)
      clear g0 g1 g2 bel5 bel4
      go_wp2
      go_roundw
      case rel => exact ⟨k + 1, by omega, by go_num, bel6⟩
      case measure => simp [intOf]; omega
    · have hge : ¬ (k : Int) < 5 := by omega
      have belR : Below w.heap.size w wr := bel0W.trans (bel.mono (by omega))
      have szR := belR.size
      clear bel bel0W HBW HS1 HS2 H17 H33 sz szW sz1 sz2
      go_wp2_with fail
      refine (oapp_any _ [] false ⟨#[97]⟩ ⟨#[]⟩ _ (Is.nil _ _) (by simp) (by simp [ByteArray.size]) (by simp [ByteArray.size])).mono ?_
      rintro E w6 ⟨v6, rfl, own6, bel6⟩
      have e1 : Om.chk false (⟨#[97]⟩ : ByteArray).data.toList (⟨#[]⟩ : ByteArray).data.toList = 0 := by decide
      have e2 : Om.appd [] false (⟨#[97]⟩ : ByteArray).data.toList (⟨#[]⟩ : ByteArray).data.toList = [0, 1, 97] := by decide +kernel
      rw [e1]
      rw [e2] at own6
      clear e1 e2
      have sz6 := bel6.size
      have bel06 := belR.trans (bel6.mono szR)
      obtain ⟨w7, hw7, sz7, bel7, own7⟩ := own_step .u8 5 w6 #[.int .u8 1, .int .u8 1, .int .u8 97, .int .u8 1, .int .u8 49, .int .u8 7] 6 [1, 1, 97, 1, 49, 7] rfl rfl (by simp [maxLen]) (bytes_wf (by decide))
      go_wp2_with fail
      refine (oread_any _ _ _ own7.is (by simp)).mono ?_
      rintro E w8 ⟨p8, k8, v8, n8, e8, rfl, hO, bel8⟩
      obtain ⟨hp8, hk8, hv8, rfl, rfl⟩ := Om.ores_good (p := true) (k := (⟨#[97]⟩ : ByteArray).data.toList) (v := (⟨#[49]⟩ : ByteArray).data.toList) (by decide) (by rw [opEnc_a]; decide) hO
      obtain rfl := hp8.symm
      obtain rfl := (ba_ext hk8).symm
      obtain rfl := (ba_ext hv8).symm
      rw [opEnc_a]
      unfold opv
      have sz8 := bel8.size
      obtain ⟨w9, hw9, sz9, bel9, blk9⟩ := blk_step w8 #[.bool true, .string ⟨#[97]⟩, .string ⟨#[49]⟩] 23
      have O2 := blk_froz blk9 2
      have O1 := blk_froz blk9 1
      have O0 := blk_froz blk9 0
      have x0 : w9.setCell ⟨w8.heap.size, 0, none⟩ (.bool true) = w9 := set_same blk9 (j := 0) rfl
      have x1 : w9.setCell ⟨w8.heap.size, 1, none⟩ (.string ⟨#[97]⟩) = w9 := set_same blk9 (j := 1) rfl
      have x2 : w9.setCell ⟨w8.heap.size, 2, none⟩ (.string ⟨#[49]⟩) = w9 := set_same blk9 (j := 2) rfl
      have o0 : w9.cell? ⟨w8.heap.size, 0, none⟩ = some (.bool true) := blk_cell blk9 0 rfl
      have o1 : w9.cell? ⟨w8.heap.size, 1, none⟩ = some (.string ⟨#[97]⟩) := blk_cell blk9 1 rfl
      have o2 : w9.cell? ⟨w8.heap.size, 2, none⟩ = some (.string ⟨#[49]⟩) := blk_cell blk9 2 rfl
      have bel69 : Below w6.heap.size w6 w9 := (bel7.trans (bel8.mono (by omega))).trans (bel9.mono (by omega))
      obtain ⟨wA, hwA, szA, belA, ownA⟩ := own_step .u8 5 w9 #[.int .u8 0, .int .u8 1, .int .u8 97] 3 [0, 1, 97] rfl rfl (by simp [maxLen]) (bytes_wf (by decide))
      have own9 := (own6.below bel69).below belA
      clear hO hp8 hk8 hv8 own7
      rw [sz9] at ownA
      go_wp2_with fail
      refine (same_yes _ _ _ _ _ own9.is ownA.is (by simp) rfl).mono ?_
      rintro E wC ⟨rfl, belC⟩
      have szC := belC.size
      have bel9C : Below w9.heap.size w9 wC := belA.trans (belC.mono (by omega))
      have blkC := (bel9C.block w8.heap.size (by omega)).trans blk9
      have q0 : wC.cell? ⟨w8.heap.size, 0, none⟩ = some (.bool true) := blk_cell blkC 0 rfl
      have q1 : wC.cell? ⟨w8.heap.size, 1, none⟩ = some (.string ⟨#[97]⟩) := blk_cell blkC 1 rfl
      have q2 : wC.cell? ⟨w8.heap.size, 2, none⟩ = some (.string ⟨#[49]⟩) := blk_cell blkC 2 rfl
      have bel0C : Below w.heap.size w wC := (bel06.trans (bel69.mono (by omega))).trans (bel9C.mono (by omega))
      have sz0C := bel0C.size
      obtain ⟨wD, hwD, szD, belD, ownD⟩ := own_step .u8 5 wC #[.int .u8 2, .int .u8 1, .int .u8 97] 3 [2, 1, 97] rfl rfl (by simp [maxLen]) (bytes_wf (by decide))
      obtain ⟨wE, hwE, szE, belE, ownE⟩ := own_step .u8 5 wD #[.int .u8 0, .int .u8 0] 2 [0, 0] rfl rfl (by simp [maxLen]) (bytes_wf (by decide))
      obtain ⟨wF, hwF, szF, belF, ownF⟩ := own_step .u8 5 wE #[.int .u8 1, .int .u8 1, .int .u8 97, .int .u8 33] 4 [1, 1, 97, 33] rfl rfl (by simp [maxLen]) (bytes_wf (by decide))
      have szC' : wD.heap.size = wC.heap.size + 1 := szD
      have szC'' : wE.heap.size = wC.heap.size + 1 + 1 := by omega
      clear own9 ownA blk9 blkC bel69 bel9C bel7 bel8 bel9 belA bel06 bel6 own6 O0 O1 O2 x0 x1 x2 o0 o1 o2
      rw [szC'] at ownE
      rw [szC''] at ownF
      obtain ⟨wG, hwG, szG, belG, blkG⟩ := blk_step wF #[.slice (some ⟨wC.heap.size, 0, none⟩) 3 3, .slice (some ⟨wC.heap.size + 1, 0, none⟩) 2 2, .slice (some ⟨wC.heap.size + 1 + 1, 0, none⟩) 4 4, .slice none 0 0] 26
      have HTAB : Hid (∀ i, i < 4 → ∃ u, wG.cell? ⟨wF.heap.size, i, none⟩ = some u ∧ Is .u8 wG u (wrongB i)) := by
        intro i hi
        have : i = 0 ∨ i = 1 ∨ i = 2 ∨ i = 3 := by omega
        have i0 := (((ownD.is.below belE).below belF)).below belG
        have i1 := (ownE.is.below belF).below belG
        have i2 := ownF.is.below belG
        rcases this with rfl | rfl | rfl | rfl
        · exact ⟨_, blk_cell blkG 0 rfl, i0⟩
        · exact ⟨_, blk_cell blkG 1 rfl, i1⟩
        · exact ⟨_, blk_cell blkG 2 rfl, i2⟩
        · exact ⟨_, blk_cell blkG 3 rfl, Is.nil _ _⟩
      have bel0G : Below w.heap.size w wG := (((bel0C.trans (belD.mono (by omega))).trans (belE.mono (by omega))).trans (belF.mono (by omega))).trans (belG.mono (by omega))
      have hszF : wF.heap.size < wG.heap.size := by omega
      clear ownD ownE ownF belD belE belF belG blkG bel0C
      go_wp2
      go_loopw [13] (fun ii wr2 => ∃ j : Nat, j ≤ 4 ∧ ii = .int .i64 j ∧ Below wG.heap.size wG wr2) (fun ii _ => 4 - (intOf ii).toNat)
      case atStart => exact ⟨0, by omega, rfl, Below.refl _ _⟩
      case round =>
        obtain ⟨j, hj, rfl, belr⟩ := hrel
        have szr := belr.size
        by_cases hltj : j < 4
        · have hltj' : (j : Int) < 4 := by omega
          obtain ⟨u, hu, hui⟩ := HTAB.out j hltj
          have hu2 := (belr.cell (p := ⟨wF.heap.size, j, none⟩) hszF).trans hu
          rw [show wF.heap.size = wC.heap.size + 1 + 1 + 1 by omega] at hu2
          have hui2 := hui.below belr
          have hlw : (wrongB j).length ≤ 4 := by
            have : j = 0 ∨ j = 1 ∨ j = 2 ∨ j = 3 := by omega
            rcases this with rfl | rfl | rfl | rfl <;> simp [wrongB]
          go_wp2_with fail
          refine (oread_any _ _ _ hui2 (by omega)).mono ?_
          rintro E wH ⟨pH, kH, vH, nH, eH, rfl, hO, belH⟩
          obtain ⟨rfl, hkH, hvH, rfl, rfl⟩ := wrong_bad j hltj hO
          obtain rfl := empty_of hkH
          obtain rfl := empty_of hvH
          unfold opv
          have belI := belr.trans (belH.mono szr)
          have belJ := belI.alloc belI.size (.cells #[.bool false, .string ⟨#[]⟩, .string ⟨#[]⟩] 23)
          clear hO hkH hvH belH belI hu hui hui2
          go_wp2
          go_roundw
          case rel => exact ⟨j + 1, by omega, by go_num, belJ⟩
          case measure => simp [intOf]; omega
        · have hgej : ¬ (j : Int) < 4 := by omega
          have belS : Below w.heap.size w wr := bel0G.trans (belr.mono (by omega))
          have szS := belS.size
          clear belr bel0G HTAB
          go_wp2_with fail
          refine (word_any ⟨#[97, 32, 98]⟩ _ (by simp [ByteArray.size])).mono ?_
          rintro E x0 ⟨rfl, belx0⟩
          rw [show (⟨(Wm.wd (⟨#[97, 32, 98]⟩ : ByteArray).data.toList).toArray⟩ : ByteArray) = ⟨#[97, 92, 50, 48, 98]⟩ from congrArg (fun l => (⟨List.toArray l⟩ : ByteArray)) (show Wm.wd [97, 32, 98] = [97, 92, 50, 48, 98] by decide +kernel)]
          have belX0 := belS.trans (belx0.mono belS.size)
          clear belx0 belS
          go_wp2_with fail
          refine (word_any ⟨#[]⟩ _ (by simp [ByteArray.size])).mono ?_
          rintro E x1 ⟨rfl, belx1⟩
          rw [show (⟨(Wm.wd (⟨#[]⟩ : ByteArray).data.toList).toArray⟩ : ByteArray) = ⟨#[34, 34]⟩ from congrArg (fun l => (⟨List.toArray l⟩ : ByteArray)) (show Wm.wd [] = [34, 34] by decide +kernel)]
          have belX1 := belX0.trans (belx1.mono belX0.size)
          clear belx1 belX0
          go_wp2_with fail
          refine (word_any ⟨#[10]⟩ _ (by simp [ByteArray.size])).mono ?_
          rintro E x2 ⟨rfl, belx2⟩
          rw [show (⟨(Wm.wd (⟨#[10]⟩ : ByteArray).data.toList).toArray⟩ : ByteArray) = ⟨#[92, 48, 97]⟩ from congrArg (fun l => (⟨List.toArray l⟩ : ByteArray)) (show Wm.wd [10] = [92, 48, 97] by decide +kernel)]
          have belX2 := belX1.trans (belx2.mono belX1.size)
          clear belx2 belX1
          go_wp2_with fail
          refine (word_any ⟨#[34]⟩ _ (by simp [ByteArray.size])).mono ?_
          rintro E x3 ⟨rfl, belx3⟩
          rw [show (⟨(Wm.wd (⟨#[34]⟩ : ByteArray).data.toList).toArray⟩ : ByteArray) = ⟨#[92, 50, 50]⟩ from congrArg (fun l => (⟨List.toArray l⟩ : ByteArray)) (show Wm.wd [34] = [92, 50, 50] by decide +kernel)]
          have belX3 := belX2.trans (belx3.mono belX2.size)
          clear belx3 belX2
          obtain ⟨wY, hwY, szY, belY, blkY⟩ := blk_step x3 #[.string ⟨#[92, 50]⟩, .string ⟨#[92, 50, 71]⟩, .string ⟨#[92, 54, 49]⟩, .string ⟨#[]⟩] 9
          have HTW : Hid (∀ i, i < 4 → wY.cell? ⟨x3.heap.size, i, none⟩ = some (.string (wrongW i))) := by
            intro i hi
            have : i = 0 ∨ i = 1 ∨ i = 2 ∨ i = 3 := by omega
            rcases this with rfl | rfl | rfl | rfl
            · exact blk_cell blkY 0 rfl
            · exact blk_cell blkY 1 rfl
            · exact blk_cell blkY 2 rfl
            · exact blk_cell blkY 3 rfl
          have bel0Y : Below w.heap.size w wY := belX3.trans (belY.mono belX3.size)
          have hszx : x3.heap.size < wY.heap.size := by omega
          clear blkY belY belX3
          go_wp2
          go_loopw [124] (fun ii wr3 => ∃ i : Nat, i ≤ 4 ∧ ii = .int .i64 i ∧ Below wY.heap.size wY wr3) (fun ii _ => 4 - (intOf ii).toNat)
          case atStart => exact ⟨0, by omega, rfl, Below.refl _ _⟩
          case round =>
            obtain ⟨i, hi, rfl, beli⟩ := hrel
            have szi := beli.size
            by_cases hlti : i < 4
            · have hlti' : (i : Int) < 4 := by omega
              have hci := (beli.cell (p := ⟨x3.heap.size, i, none⟩) hszx).trans (HTW.out i hlti)
              have hsw : (wrongW i).size ≤ 3 := by
                have : i = 0 ∨ i = 1 ∨ i = 2 ∨ i = 3 := by omega
                rcases this with rfl | rfl | rfl | rfl <;> decide
              have HWW : Hid (∀ t e, Wm.BRes (wrongW i).data.toList t e → t = [] ∧ e = 5) := fun t e h => wrong_word i hlti h
              generalize wrongW i = ww at *
              go_wp2_with fail
              refine (byts_any ww _ (by omega)).mono ?_
              rintro E wZ ⟨tz, ez, rfl, hZ, belZ⟩
              obtain ⟨_, rfl⟩ := HWW.out _ _ hZ
              have belV := beli.trans (belZ.mono szi)
              clear hZ belZ
              go_wp2
              go_roundw
              case rel => exact ⟨i + 1, by omega, by go_num, belV⟩
              case measure => simp [intOf]; omega
            · have hgei : ¬ (i : Int) < 4 := by omega
              have belQ : Below w.heap.size w wr := bel0Y.trans (beli.mono bel0Y.size)
              clear beli bel0Y HTW
              go_wp2_with fail
              refine (byts_any ⟨#[34, 34]⟩ _ (by simp [ByteArray.size])).mono ?_
              rintro E y1 ⟨tq, eq, rfl, hQ, belq⟩
              obtain ⟨htq, rfl⟩ := Wm.bres_one hQ (.inl ⟨rfl, rfl⟩ : Wm.BRes _ [] 0)
              obtain rfl := empty_of htq
              have belQ2 := belQ.trans (belq.mono belQ.size)
              clear hQ htq belq belQ
              go_wp2_with fail
              refine (lives_any _).mono ?_
              rintro E y2 ⟨rfl, bely⟩
              go_wp2
              go_ret
              exact ⟨rfl, belQ2.trans (bely.mono belQ2.size)⟩

end Go.Proofs.Ytaejecompbmhcaa
