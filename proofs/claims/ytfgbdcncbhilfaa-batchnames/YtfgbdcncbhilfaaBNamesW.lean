/- The walk of BatchNames. -/
import Derived.Test.YtfgbdcncbhilfaaBl
import Derived.Test.YtfgbdcncbhilfaaCutb
namespace Go.Proofs.Ytfgbdcncbhilfaa
open Go.RowKit
set_option linter.unusedVariables false

def badB : List Int := [2, 1, 0, 1, 97, 0, 1, 0, 1, 97, 0]

/-- A byte row that opens with a number of ops, and no such list. -/
theorem badB_none : ∀ m : List Bm.Ov, Bm.chkL m = 0 → ¬ Bm.encB m <+: badB := by
  intro m hm hp
  obtain ⟨h1, h8, hc⟩ := Bm.chkL_zero hm
  unfold Bm.encB at hp
  rw [Bm.pre_app] at hp
  have e : m.length = 2 := by
    have := Vm.pre_one badB m.length 2 hp.1 (by rw [Vm.enc_lo (by omega)]; exact ⟨[1, 0, 1, 97, 0, 1, 0, 1, 97, 0], rfl⟩)
    exact this
  match m, e with
  | [o, q], _ =>
    have hp2 := hp.2
    rw [show (Vm.enc [o, q].length).length = 1 from Vm.sz_lo (by simp)] at hp2
    let o' : Bm.Ov := ⟨true, ⟨#[97]⟩, ⟨#[]⟩⟩
    have eo : Bm.encO [] o' = [1, 0, 1, 97, 0] := by simp [o', Bm.encO, Bm.pre4, Bm.com, Bm.Ov.kl, Bm.Ov.vl, Bm.Ov.bit, Vm.enc_lo, Om.ints, Om.cnt]
    unfold Bm.encL at hp2
    rw [Bm.pre_app] at hp2
    have hoo : o = o' := Bm.encO_free hp2.1 (by rw [eo]; exact ⟨[1, 0, 1, 97, 0], rfl⟩) (Bm.Ov.shape_of (hc o (by simp))) (.inl rfl)
    subst hoo
    have hp3 := hp2.2
    rw [eo] at hp3
    unfold Bm.encL at hp3
    rw [Bm.pre_app] at hp3
    have hq := hp3.1
    have hk : (o' : Bm.Ov).kl = [97] := rfl
    rw [hk] at hq
    have hd : List.drop ([1, 0, 1, 97, 0] : List Int).length (List.drop 1 badB) = [1, 0, 1, 97, 0] := rfl
    rw [hd] at hq
    unfold Bm.encO at hq
    rw [Bm.pre_app] at hq
    have hx : Bm.pre4 1 0 [97] <+: [1, 0, 1, 97, 0] := by
      have : Bm.pre4 1 0 [97] = [1, 0, 1, 97] := by simp [Bm.pre4, Vm.enc_lo, Om.ints]
      rw [this]
      exact ⟨[0], rfl⟩
    obtain ⟨_, e2, e3⟩ := Bm.pre4_free hq.1 hx
    have hkey := Bm.key_of [97] q.kl
    rw [e3, e2] at hkey
    simp at hkey
    rw [← hkey] at e2
    simp [Bm.com] at e2

theorem bad_read {l : List Bm.Ov} {n e : Int} (h : Bm.BRes badB l n e) : e = 5 := by
  rcases h with ⟨_, h1, h2, _⟩ | ⟨h, _⟩
  · exact absurd h2 (badB_none l h1)
  · exact h

/-- Nine ops without anything. -/
def nine : List Bm.Ov := List.replicate 9 ⟨false, ⟨#[]⟩, ⟨#[]⟩⟩

theorem nine_cells : (madeCells (Value.agg #[.bool false, .string ⟨#[]⟩, .string ⟨#[]⟩]).cells (9 * 3)).toList = ocells nine := by kernel_rfl

set_option maxHeartbeats 1000000 in
theorem batchNames_walk (w : World) : Calls Try.prog 3 #[] w fun e w' => e = .returned (.bool true) ∧ Below w.heap.size w w' := by
  go_enter Try.func3, Try.ntmps3
  go_wp2_with fail
  refine (example_any _).mono ?_
  rintro E w1 ⟨vl, vb, rfl, own1, owb1, bel1⟩
  have sz1 := bel1.size
  have hlenb := owb1.is.len_run Try.elemP
  rw [show exB.length = 17 from rfl] at hlenb
  obtain ⟨vs, hsl, isl⟩ := owb1.is.slice_h Try.elemP Try.sizeP 16 (by simp [exB])
  have hsl' : ∀ wx, (Instr.slice 23 vb none (some (.int .i64 16)) none).run Try.prog wx = .ok vs wx := hsl
  clear hsl
  go_wp2_with fail
  refine (bread_any vs _ _ isl (by simp [exB])).mono ?_
  rintro E w2 ⟨vx, x, n, e, rfl, _, hR, bel2⟩
  have he : e = 5 := by
    rw [← exB_is] at hR
    exact (Bm.bres_cut exL_ok (by rw [exB_is]; simp [exB]) hR).1
  subst he
  have sz2 := bel2.size
  have bel02 := bel1.trans (bel2.mono sz1)
  clear hR isl hsl' bel1 bel2 own1 owb1 hlenb
  obtain ⟨w3, hw3, sz3, bel3, own3⟩ := own_step .u8 5 w2 #[.int .u8 2, .int .u8 1, .int .u8 0, .int .u8 1, .int .u8 97, .int .u8 0, .int .u8 1, .int .u8 0, .int .u8 1, .int .u8 97, .int .u8 0] 11 badB rfl rfl (by simp [maxLen]) (by decide)
  have bel03 := bel02.trans (bel3.mono (by omega))
  go_wp2_with fail
  refine (bread_any _ badB _ own3.is (by simp [badB])).mono ?_
  rintro E w4 ⟨vy, y, n, e, rfl, _, hR, bel4⟩
  obtain rfl := bad_read hR
  have sz4 := bel4.size
  have bel04 := bel03.trans (bel4.mono (by omega))
  clear hR own3 bel3 bel4 bel03 bel02 hw3
  obtain ⟨i0, hi, hz0, hz1, hz2⟩ := info_parts Try.info47
  obtain ⟨w5, hmk, own5, gr5⟩ := run_make_full (P := Try.prog) w4 w4.heap.size 22 47 i0 _ 3 Try.underlying22 hi hz0 hz1 .i64 .i64 9 (by rw [hz2]; decide) (by simp [maxLen]) (Nat.le_refl _)
  have hmk' : (Instr.makeSlice 22 (.int .i64 9) (.int .i64 9)).run Try.prog w4 = .ok (.slice (some ⟨w4.heap.size, 0, none⟩) 9 9) w5 := hmk
  have own5' : OwnO 47 w4.heap.size w5 (.slice (some ⟨w4.heap.size, 0, none⟩) 9 9) nine := by
    rw [nine_cells] at own5
    exact own5
  have bel5 : Below w4.heap.size w4 w5 := (Below.refl _ _).grown gr5 (Nat.le_refl _) (by simp)
  have sz5 := bel5.size
  have bel05 := bel04.trans (bel5.mono (by omega))
  have is5 := own5'.is
  have hf9 : FitO nine := fun o ho => by rw [List.eq_of_mem_replicate ho]; simp [ByteArray.size]
  clear hmk own5 gr5 bel5 bel04
  go_wp2_with fail
  refine (lives_any _).mono ?_
  rintro E w6 ⟨rfl, bel6⟩
  have is6 := is5.below bel6
  have bel06 := bel05.trans (bel6.mono bel05.size)
  clear is5 bel6 bel05 own5'
  go_wp2_with fail
  refine (bcheck_any _ [] _ (IsO.nil _) (fun o ho => by simp at ho) (by simp)).mono ?_
  rintro E w7 ⟨rfl, bel7⟩
  rw [Bm.chkL_nil]
  have is7 := is6.below bel7
  have bel07 := bel06.trans (bel7.mono bel06.size)
  clear is6 bel7 bel06
  go_wp2_with fail
  refine (bcheck_any _ nine _ is7 hf9 (by simp [nine])).mono ?_
  rintro E w8 ⟨rfl, bel8⟩
  rw [show Bm.chkL nine = 3 from rfl]
  have is8 := is7.below bel8
  have bel08 := bel07.trans (bel8.mono bel07.size)
  clear is7 bel8 bel07
  have is9 := is8.front 1 (by simp [nine])
  go_wp2_with fail
  refine (bcheck_any _ (nine.take 1) _ is9 (fun o ho => hf9 o (List.mem_of_mem_take ho)) (by rw [List.length_take]; omega)).mono ?_
  rintro E w9 ⟨rfl, bel9⟩
  rw [show Bm.chkL (nine.take 1) = 2 from rfl]
  have bel09 := bel08.trans (bel9.mono bel08.size)
  clear is8 is9 bel9 bel08
  go_wp2_with fail
  refine (shared_any ⟨#[97, 98, 99]⟩ ⟨#[97, 98, 100]⟩ _ (by simp [ByteArray.size]) (by simp [ByteArray.size])).mono ?_
  rintro E w10 ⟨rfl, bel10⟩
  rw [show ((Bm.com (⟨#[97, 98, 99]⟩ : ByteArray).data.toList (⟨#[97, 98, 100]⟩ : ByteArray).data.toList : Nat) : Int) = 2 from rfl]
  have bel010 := bel09.trans (bel10.mono bel09.size)
  go_wp2
  go_ret
  exact ⟨rfl, bel010⟩

end Go.Proofs.Ytfgbdcncbhilfaa
