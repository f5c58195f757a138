/- The contracts of the document's digit, Bytes. -/
import Derived.Test.YtdlogcdpapknaaaGreatDoorZQ
namespace Go.Proofs.YtdlogcdpapknaaaGreatDoor
open Go.RowKit
set_option linter.unusedVariables false

/-- What digit answers. -/
def Dig (c : UInt8) (z : Int) (ok : Bool) : Prop := (ok = true ∧ ∃ a : Nat, a < 16 ∧ z = a ∧ Wm.hexd a = c) ∨ (ok = false ∧ ∀ a, a < 16 → Wm.hexd a ≠ c)

theorem hex_eq {k : Nat} {c : UInt8} (h : (((Wm.hexd k).toNat : Int) == (c.toNat : Int)) = true) : Wm.hexd k = c := by
  have := beq_iff_eq.1 h
  exact UInt8.toNat_inj.1 (by omega)

theorem hex_ne {k : Nat} {c : UInt8} (h : (((Wm.hexd k).toNat : Int) == (c.toNat : Int)) = false) : Wm.hexd k ≠ c := by
  intro e
  rw [e] at h
  simp at h

set_option maxHeartbeats 400000 in
theorem digitR_any (c : UInt8) (w : World) :
    Calls Tryz.prog 103 #[.int .u8 c.toNat] w fun E w' => ∃ z ok, E = .returned (.tuple #[.int .u8 z, .bool ok]) ∧ Dig c z ok ∧ w = w' := by
  go_enter Tryz.func103, Tryz.ntmps103
  go_wp2
  go_loop [4] (fun nn => ∃ k : Nat, k ≤ 16 ∧ nn = .int .u8 k ∧ ∀ a, a < k → Wm.hexd a ≠ c) (fun nn => 16 - (intOf nn).toNat)
  case atStart => exact ⟨0, by omega, rfl, fun a ha => by omega⟩
  case round =>
    obtain ⟨k, hk, rfl, hne⟩ := hrel
    have HN := hide hne
    clear hne
    by_cases hlt : k < 16
    · have hlt' : (k : Int) < 16 := by omega
      go_wp2_with fail
      refine (hexR_any _ k _ hlt rfl).mono ?_
      rintro E w1 ⟨rfl, rfl⟩
      cases ht : (((Wm.hexd k).toNat : Int) == (c.toNat : Int))
      · have e1 : ((k : Int) + 1) % 256 = k + 1 := by omega
        go_wp2
        go_round
        case rel => exact ⟨k + 1, by omega, by go_num, fun a ha => by rcases Nat.lt_or_ge a k with h | h; exact HN.out a h; exact (show a = k by omega) ▸ hex_ne ht⟩
        case measure => simp [intOf]; omega
      · go_wp2
        go_ret2
        exact ⟨_, _, rfl, .inl ⟨rfl, k, hlt, rfl, hex_eq ht⟩, rfl⟩
    · have : k = 16 := by omega
      subst this
      go_wp2
      go_ret2
      exact ⟨_, .inl ⟨rfl, .inr ⟨rfl, HN.out⟩, rfl⟩⟩

set_option maxRecDepth 100000 in
set_option maxHeartbeats 2000000 in
theorem bytsR_any (s : ByteArray) (w : World) (hs : s.size ≤ 35184372088832) :
    Calls Tryz.prog 94 #[.string s] w fun E w' => ∃ (t : ByteArray) (e : Int), E = .returned (.tuple #[.string t, .int .i64 e]) ∧ Wm.BRes s.data.toList t.data.toList e ∧ Below w.heap.size w w' := by
  by_cases hq : s.data.toList = [34, 34]
  · have he : s = ⟨#[34, 34]⟩ := by
      obtain ⟨⟨l⟩⟩ := s
      simp at hq
      rw [hq]
    subst he
    obtain ⟨w1, hw1, sz1, bel1, own1⟩ := own_step .u8 5 w #[.int .u8 34, .int .u8 34] 2 [34, 34] rfl rfl (by simp [maxLen]) (bytes_wf (by decide))
    have hconv := own1.is.conv Tryz.underlying60 Tryz.underlying5 Tryz.underlying9
    have e1 : Om.byts [34, 34] = [34, 34] := by decide
    rw [e1] at hconv
    have hconv2 := (Is.nil .u8 w1).conv Tryz.underlying60 Tryz.underlying5 Tryz.underlying9
    rw [show Om.byts [] = [] from rfl] at hconv2
    clear e1 hq
    go_enter Tryz.func94, Tryz.ntmps94
    go_wp2
    refine wp_loop_rounds 1 ?_
    rw [rounds_succ]
    go_wp2_with fail
    refine (wordR_any ⟨#[]⟩ _ (by simp [ByteArray.size])).mono ?_
    rintro E w2 ⟨rfl, bel2⟩
    have hconv3 := (Is.nil .u8 w2).conv Tryz.underlying60 Tryz.underlying5 Tryz.underlying9
    rw [show Om.byts [] = [] from rfl] at hconv3
    rw [show (⟨(Wm.wd (⟨#[]⟩ : ByteArray).data.toList).toArray⟩ : ByteArray) = ⟨#[34, 34]⟩ from rfl]
    go_wp2
    go_ret2
    exact ⟨_, _, rfl, .inl ⟨rfl, rfl⟩, bel1.trans (bel2.mono bel1.size)⟩
  · have hl : s.data.toList.length = s.size := (Lib.size_eq s).symm
    have hqb : (s.toList == [34, 34]) = false := by rw [Lib.toList_data]; simpa using hq
    have HQ := hide hq
    clear hq
    go_enter Tryz.func94, Tryz.ntmps94
    go_wp2
    go_loopw [4, 5] (fun vv ii wr => ∃ (k : Nat) (acc : List UInt8), k ≤ s.size ∧ ii = .int .i64 k ∧ Own .u8 5 w.heap.size wr vv (Om.ints acc) ∧ acc.length ≤ k ∧ Wm.Soft s.data.toList acc k ∧ Below w.heap.size w wr) (fun _ ii _ => s.size - (intOf ii).toNat)
    case atStart => exact ⟨0, [], by omega, rfl, Own.nil _ _ _ _, by simp, Wm.soft_start _, Below.refl _ _⟩
    case round =>
      obtain ⟨k, acc, hk, rfl, own, hal, hsoft, bel⟩ := hrel
      have sz := bel.size
      have HS := hide hsoft
      clear hsoft
      have hil := Om.ints_len acc
      by_cases hlt : k < s.size
      · have hlt' : (k : Int) < s.size := by omega
        obtain ⟨w1, hw1, sz1, bel1, own1⟩ := own_step .u8 5 wr #[.int .u8 34, .int .u8 34] 2 [34, 34] rfl rfl (by simp [maxLen]) (bytes_wf (by decide))
        have hconv := own1.is.conv Tryz.underlying60 Tryz.underlying5 Tryz.underlying9
        rw [show Om.byts [34, 34] = [34, 34] by decide] at hconv
        obtain ⟨c, hc⟩ : ∃ c : UInt8, s[k] = c := ⟨_, rfl⟩
        have hgl : s.data.toList[k]'(by omega) = c := by rw [← hc]; rfl
        have HGL := hide hgl
        clear hgl own1
        have own1 := own.below bel1
        have belA := bel.trans (bel1.mono sz)
        by_cases h92 : c = 92
        · subst h92
          by_cases h2 : k + 2 < s.size
          · have h2' : (k : Int) + 2 < s.size := by omega
            have hl1 : k + 1 < s.size := by omega
            obtain ⟨c1, hc1⟩ : ∃ c : UInt8, s[k + 1] = c := ⟨_, rfl⟩
            obtain ⟨c2, hc2⟩ : ∃ c : UInt8, s[k + 2] = c := ⟨_, rfl⟩
            have G1 : Hid (s.data.toList[k + 1]? = some c1) := by show _ = _; rw [List.getElem?_eq_getElem (by omega), ← hc1]; rfl
            have G2 : Hid (s.data.toList[k + 2]? = some c2) := by show _ = _; rw [List.getElem?_eq_getElem (by omega), ← hc2]; rfl
            go_wp2_with fail
            refine (digitR_any c1 _).mono ?_
            rintro E w2 ⟨z1, ok1, rfl, hd1, rfl⟩
            go_wp2_with fail
            refine (digitR_any c2 _).mono ?_
            rintro E w2 ⟨z2, ok2, rfl, hd2, rfl⟩
            rcases hd1 with ⟨rfl, a, ha, rfl, ha2⟩ | ⟨rfl, hd1⟩
            · rcases hd2 with ⟨rfl, b, hb, rfl, hb2⟩ | ⟨rfl, hd2⟩
              · have HS2 := hide (Wm.soft_esc HS.out (by omega) HGL.out ha hb (by rw [ha2]; exact G1.out) (by rw [hb2]; exact G2.out))
                have e1 : 16 * (a : Int) % 256 = 16 * a := by omega
                have e2 : (16 * (a : Int) + b) % 256 = 16 * a + b := by omega
                obtain ⟨w3, hw3, sz3, bel3, own3⟩ := own_step .u8 5 w1 #[.int .u8 (16 * (a : Int) + b)] 1 [16 * (a : Int) + b] rfl rfl (by simp [maxLen]) (by simp; exact wf_u8 (by omega) (by omega))
                rw [sz1] at own3
                clear ha2 hb2
                go_wp2_with (at_builtin; refine wpList_append_is rfl (.tmp 59) (.tmp 64) 60 rfl .u8 5 w.heap.size 1 Tryz.underlying60 Tryz.info5 (by decide) _ (Om.ints acc) rfl (own1.below bel3) _ [16 * (a : Int) + b] rfl own3.is (by simp; omega) (by omega) ?_)
                intro v5 w5 own5 bel5 _
                have e5 : Om.ints acc ++ [16 * (a : Int) + b] = Om.ints (acc ++ [UInt8.ofNat (16 * a + b)]) := by
                  rw [Om.ints_append]
                  congr 1
                  simp [Om.ints]
                  omega
                rw [e5] at own5
                have belF : Below w.heap.size w w5 := (belA.trans (bel3.mono (by omega))).trans bel5
                clear e1 e2 e5 own3 own1 own
                go_wp2
                go_roundw
                case rel => exact ⟨k + 3, acc ++ [UInt8.ofNat (16 * a + b)], by omega, by go_num, own5, by simp; omega, HS2.out, belF⟩
                case measure => simp [intOf]; omega
              · have HB : Hid (Wm.BRes s.data.toList [] 5) := .inr ⟨rfl, rfl, Wm.soft_bad HS.out (by omega) HGL.out HQ.out (.inr (.inr fun d hd h => hd2 d hd (Option.some.inj (G2.out.symm.trans h)).symm))⟩
                clear hd2
                go_wp2
                go_ret2
                exact ⟨_, _, rfl, HB.out, belA⟩
            · have HB : Hid (Wm.BRes s.data.toList [] 5) := .inr ⟨rfl, rfl, Wm.soft_bad HS.out (by omega) HGL.out HQ.out (.inr (.inl fun d hd h => hd1 d hd (Option.some.inj (G1.out.symm.trans h)).symm))⟩
              clear hd1 hd2
              go_wp2
              go_ret2
              exact ⟨_, _, rfl, HB.out, belA⟩
          · have h2' : (s.size : Int) ≤ (k : Int) + 2 := by omega
            have HB : Hid (Wm.BRes s.data.toList [] 5) := .inr ⟨rfl, rfl, Wm.soft_bad HS.out (by omega) HGL.out HQ.out (.inl (by omega))⟩
            go_wp2
            go_ret2
            exact ⟨_, _, rfl, HB.out, belA⟩
        · have h92' : ((c.toNat : Int) != 92) = true := by
            have : c.toNat ≠ 92 := fun h => h92 (UInt8.toNat_inj.1 h)
            simp
            omega
          have hcl := c.toNat_lt
          have HS2 : Hid (Wm.Soft s.data.toList (acc ++ [c]) (k + 1)) := by
            have := Wm.soft_plain HS.out (by omega) (by rw [HGL.out]; exact h92)
            rw [HGL.out] at this
            exact this
          obtain ⟨w3, hw3, sz3, bel3, own3⟩ := own_step .u8 5 w1 #[.int .u8 c.toNat] 1 [(c.toNat : Int)] rfl rfl (by simp [maxLen]) (by simp; exact wf_u8 (by omega) (by omega))
          rw [sz1] at own3
          clear h92
          go_wp2_with (at_builtin; refine wpList_append_is rfl (.tmp 26) (.tmp 30) 60 rfl .u8 5 w.heap.size 1 Tryz.underlying60 Tryz.info5 (by decide) _ (Om.ints acc) rfl (own1.below bel3) _ [(c.toNat : Int)] rfl own3.is (by simp; omega) (by omega) ?_)
          intro v5 w5 own5 bel5 _
          have e5 : Om.ints acc ++ [(c.toNat : Int)] = Om.ints (acc ++ [c]) := by rw [Om.ints_append]; rfl
          rw [e5] at own5
          have belF : Below w.heap.size w w5 := (belA.trans (bel3.mono (by omega))).trans bel5
          clear e5 own3 own1 own
          go_wp2
          go_roundw
          case rel => exact ⟨k + 1, acc ++ [c], by omega, by go_num, own5, by simp; omega, HS2.out, belF⟩
          case measure => simp [intOf]; omega
      · have hconv := own.is.conv Tryz.underlying60 Tryz.underlying5 Tryz.underlying9
        rw [Om.byts_ints] at hconv
        have hal2 : acc.length ≤ 35184372088832 := by omega
        go_wp2_with fail
        refine (wordR_any ⟨acc.toArray⟩ _ (by rw [Lib.size_eq]; simpa using hal2)).mono ?_
        rintro E w2 ⟨rfl, bel2⟩
        have own2 := own.below bel2
        have hconv2 := own2.is.conv Tryz.underlying60 Tryz.underlying5 Tryz.underlying9
        rw [Om.byts_ints] at hconv2
        have belF := bel.trans (bel2.mono sz)
        have hke : s.data.toList.length ≤ k := by omega
        by_cases hw : Wm.wd acc = s.data.toList
        · have HB : Hid (Wm.BRes s.data.toList acc 0) := .inl ⟨rfl, hw⟩
          have et : (⟨(Wm.wd (⟨acc.toArray⟩ : ByteArray).data.toList).toArray⟩ : ByteArray) = s := by
            obtain ⟨⟨l⟩⟩ := s
            simp at hw
            simp [hw]
          rw [et]
          clear hw et
          go_wp2
          go_ret2
          exact ⟨⟨acc.toArray⟩, _, rfl, HB.out, belF⟩
        · have HB : Hid (Wm.BRes s.data.toList [] 5) := .inr ⟨rfl, rfl, fun t ht => hw (Wm.soft_end HS.out hke HQ.out ht ▸ ht)⟩
          obtain ⟨u, hu⟩ : ∃ u : ByteArray, (⟨(Wm.wd (⟨acc.toArray⟩ : ByteArray).data.toList).toArray⟩ : ByteArray) = u := ⟨_, rfl⟩
          rw [hu]
          have hub : (u.toList == s.toList) = false := by
            rw [Lib.toList_data, Lib.toList_data, ← hu]
            simpa using hw
          clear hw hu
          go_wp2
          go_ret2
          exact ⟨_, _, rfl, HB.out, belF⟩

end Go.Proofs.YtdlogcdpapknaaaGreatDoor
