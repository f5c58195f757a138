/- Texts of one layer, one behind the other. -/
import Derived.Test.YtdlogcdpapknaaaGreatDoorSxw
import Derived.Test.YtdlogcdpapknaaaGreatDoorSxk
import Derived.Test.YtdlogcdpapknaaaGreatDoorZE
/- The document's Words (layer 25). -/
namespace Go.Proofs.YtdlogcdpapknaaaGreatDoor
open Go.RowKit
set_option linter.unusedVariables false
set_option maxRecDepth 100000

/-- A word is being read at i: where it began, its letters. -/
def WCur (L : List UInt8) (i : Nat) (a : Int) (cur : List UInt8) : Prop := (a = -1 ∧ cur = []) ∨ ∃ k : Nat, a = k ∧ k < i ∧ cur = (L.drop k).take (i - k)

theorem drop_at {L : List UInt8} {i : Nat} {c : UInt8} (h : L[i]? = some c) : L.drop i = c :: L.drop (i + 1) := by
  obtain ⟨h1, h2⟩ := List.getElem?_eq_some_iff.1 h
  rw [List.drop_eq_getElem_cons h1, h2]
theorem cur_on {L : List UInt8} {i k : Nat} {c : UInt8} (h : L[i]? = some c) (hk : k ≤ i) : (L.drop k).take (i + 1 - k) = (L.drop k).take (i - k) ++ [c] := by
  rw [show i + 1 - k = (i - k) + 1 by omega, List.take_add_one, List.getElem?_drop, show k + (i - k) = i by omega, h]
  rfl
theorem cur_ne {L : List UInt8} {i k : Nat} (hk : k < i) (hi : i ≤ L.length) : (L.drop k).take (i - k) ≠ [] := fun e => by
  have := congrArg List.length e
  simp at this
  omega

/-- What Words gives back. -/
def WrdR (L : List UInt8) (w : World) (E : Ending) (w' : World) : Prop := ∃ v ws, E = .returned v ∧ OwnG fsc 1 9 w.heap.size w' v ws ∧ wl ws = Sct.wds L ∧ Below w.heap.size w w'

set_option maxHeartbeats 4000000 in
theorem wordsR_any (s : ByteArray) (w : World) (hs : s.size ≤ 1000000) : Calls Tryz.prog 37 #[.string s] w (WrdR s.data.toList w) := by
  obtain ⟨L, hL⟩ : ∃ L, s.data.toList = L := ⟨_, rfl⟩
  have hLl : L.length = s.size := by rw [← hL, Lib.size_eq]
  rw [hL]
  have HL := hide hL
  have EX : Hid (∀ k i : Nat, (s.extract k i).data.toList = (L.drop k).take (i - k)) := hide fun k i => by rw [ext_list, hL]
  clear hL
  go_enter Tryz.func37, Tryz.ntmps37
  go_wp2
  go_loopw [3, 4, 5] (fun wv av iv wr => ∃ (i : Nat) (a : Int) (ws : List ByteArray) (cur : List UInt8), i ≤ s.size + 1 ∧ iv = .int .i64 i ∧ av = .int .i64 a ∧ ws.length ≤ i ∧ OwnG fsc 1 9 w.heap.size wr wv ws ∧ Below w.heap.size w wr ∧ Hid (i ≤ s.size → WCur L i a cur ∧ wl ws ++ Sct.wdsA cur (L.drop i) = Sct.wds L) ∧ Hid (s.size < i → wl ws = Sct.wds L)) (fun _ _ iv _ => s.size + 1 - (intOf iv).toNat)
  case atStart => exact ⟨0, -1, [], [], by omega, rfl, rfl, by simp, OwnG.nil _ _ _ _ _, Below.refl _ _, hide fun _ => ⟨.inl ⟨rfl, rfl⟩, rfl⟩, hide fun h => by omega⟩
  case round =>
    obtain ⟨i, a, ws, cur, hi, rfl, rfl, hwl, own, bel, I1, I2⟩ := hrel
    have hbs := bel.size
    by_cases hle : i ≤ s.size
    · have hle' : (i : Int) ≤ s.size := by omega
      obtain ⟨hc, hw⟩ := I1.out hle
      clear I1 I2
      have cut : ∀ k : Nat, a = k → k < i → ∃ x, s.extract k i = x ∧ x.data.toList = (L.drop k).take (i - k) := fun k _ _ => ⟨_, rfl, EX.out k i⟩
      by_cases hlt : i < s.size
      · have heq : ((i : Int) == s.size) = false := by simp; omega
        have hlt' : (i : Int) < s.size := by omega
        obtain ⟨c, hcc⟩ : ∃ c : UInt8, s[i]'hlt = c := ⟨_, rfl⟩
        have hat : L[i]? = some c := by rw [← HL.out]; exact str_at hlt hcc
        have hd := drop_at hat
        rw [hd] at hw
        by_cases h32 : c = 32
        · subst h32
          rw [Sct.wdsA_blank] at hw
          rcases hc with ⟨rfl, rfl⟩ | ⟨k, rfl, hk, rfl⟩
          · rw [if_pos rfl] at hw
            have J := hide (fun (_ : i + 1 ≤ s.size) => (show WCur L (i + 1) (-1) [] ∧ wl ws ++ Sct.wdsA [] (L.drop (i + 1)) = Sct.wds L from ⟨.inl ⟨rfl, rfl⟩, hw⟩))
            clear hw hd hat cut
            go_wp2
            go_roundw
            case rel => exact ⟨i + 1, -1, ws, [], by omega, by go_num, rfl, by omega, own, bel, J, hide fun h => by omega⟩
            case measure => first | (simp [intOf]; done) | (simp [intOf]; omega)
          · rw [if_neg (cur_ne hk (by omega))] at hw
            obtain ⟨x, hx, hxl⟩ := cut k rfl hk
            have hk0 : (0 : Int) ≤ k := by omega
            have hki : (k : Int) ≤ i := by omega
            have J := hide (fun (_ : i + 1 ≤ s.size) => (show WCur L (i + 1) (-1) [] ∧ wl (ws ++ [x]) ++ Sct.wdsA [] (L.drop (i + 1)) = Sct.wds L from ⟨.inl ⟨rfl, rfl⟩, by
              rw [show wl (ws ++ [x]) = wl ws ++ [x.data.toList] by simp [wl], hxl, List.append_assoc]
              exact hw⟩))
            obtain ⟨wd, hwd, sd, bd, ownd⟩ := rows_step fsc 1 fsc_len 9 wr #[.string x] 1 [x] rfl rfl (by simp [maxLen])
            have own2 := own.below bd
            have B2 := bel.trans (bd.mono hbs)
            clear hw hd hat cut hxl
            go_wp2_with (at_builtin; refine wpList_append_rows fsc 1 16 fsc_len (by decide) (by decide) (.string ⟨#[]⟩) rfl rfl (.tmp 35) (.tmp 40) 29 rfl 9 (w.heap.size) Tryz.underlying29 Tryz.info9 _ ws rfl own2 _ [x] rfl ownd.row (fsc_one _) (by simp; omega) (by omega) ?_)
            intro v3 we own3 hg3
            have B3 := row_below own2 hg3 B2 B2.size (Nat.le_refl _)
            clear own2 ownd B2 hg3
            go_wp2
            go_roundw
            case rel => exact ⟨i + 1, -1, ws ++ [x], [], by omega, by go_num, rfl, by simp; omega, own3, B3, J, hide fun h => by omega⟩
            case measure => first | (simp [intOf]; done) | (simp [intOf]; omega)
        · have h32' : ((c.toNat : Int) == 32) = false := by
            have : c.toNat ≠ 32 := fun e => h32 (UInt8.toNat.inj e)
            simp
            omega
          rw [Sct.wdsA_on h32] at hw
          rcases hc with ⟨rfl, rfl⟩ | ⟨k, rfl, hk, rfl⟩
          · have J := hide (fun (_ : i + 1 ≤ s.size) => (show WCur L (i + 1) i [c] ∧ wl ws ++ Sct.wdsA [c] (L.drop (i + 1)) = Sct.wds L from ⟨.inr ⟨i, rfl, by omega, by have := cur_on (k := i) hat (Nat.le_refl _); rw [this]; simp⟩, hw⟩))
            have hi0 : (0 : Int) ≤ i := by omega
            have hi1 : ¬ (i : Int) < 0 := by omega
            clear hw hd hat cut
            go_wp2
            go_roundw
            case rel => exact ⟨i + 1, i, ws, [c], by omega, by go_num, rfl, by omega, own, bel, J, hide fun h => by omega⟩
            case measure => first | (simp [intOf]; done) | (simp [intOf]; omega)
          · have J := hide (fun (_ : i + 1 ≤ s.size) => (show WCur L (i + 1) k ((L.drop k).take (i - k) ++ [c]) ∧ wl ws ++ Sct.wdsA ((L.drop k).take (i - k) ++ [c]) (L.drop (i + 1)) = Sct.wds L from ⟨.inr ⟨k, rfl, by omega, (cur_on hat (by omega)).symm⟩, hw⟩))
            have hk1 : ¬ (k : Int) < 0 := by omega
            clear hw hd hat cut
            go_wp2
            go_roundw
            case rel => exact ⟨i + 1, k, ws, _, by omega, by go_num, rfl, by omega, own, bel, J, hide fun h => by omega⟩
            case measure => first | (simp [intOf]; done) | (simp [intOf]; omega)
      · obtain rfl : i = s.size := by omega
        have heq : ((s.size : Int) == s.size) = true := by simp
        have hdn : L.drop s.size = [] := List.drop_eq_nil_of_le (by omega)
        rw [hdn] at hw
        rcases hc with ⟨rfl, rfl⟩ | ⟨k, rfl, hk, rfl⟩
        · have J := hide (fun (_ : s.size < s.size + 1) => (show wl ws = Sct.wds L by simpa [Sct.wdsA] using hw))
          clear hw hdn cut
          go_wp2
          go_roundw
          case rel => exact ⟨s.size + 1, -1, ws, [], by omega, by go_num, rfl, by omega, own, bel, hide fun h => by omega, J⟩
          case measure => first | (simp [intOf]; done) | (simp [intOf]; omega)
        · obtain ⟨x, hx, hxl⟩ := cut k rfl hk
          have hk0 : (0 : Int) ≤ k := by omega
          have hki : (k : Int) ≤ s.size := by omega
          have J := hide (fun (_ : s.size < s.size + 1) => (show wl (ws ++ [x]) = Sct.wds L by
            rw [show wl (ws ++ [x]) = wl ws ++ [x.data.toList] by simp [wl], hxl, ← hw, Sct.wdsA, if_neg (cur_ne hk (by omega))]))
          obtain ⟨wd, hwd, sd, bd, ownd⟩ := rows_step fsc 1 fsc_len 9 wr #[.string x] 1 [x] rfl rfl (by simp [maxLen])
          have own2 := own.below bd
          have B2 := bel.trans (bd.mono hbs)
          clear hw hdn cut hxl
          go_wp2_with (at_builtin; refine wpList_append_rows fsc 1 16 fsc_len (by decide) (by decide) (.string ⟨#[]⟩) rfl rfl (.tmp 35) (.tmp 40) 29 rfl 9 (w.heap.size) Tryz.underlying29 Tryz.info9 _ ws rfl own2 _ [x] rfl ownd.row (fsc_one _) (by simp; omega) (by omega) ?_)
          intro v3 we own3 hg3
          have B3 := row_below own2 hg3 B2 B2.size (Nat.le_refl _)
          clear own2 ownd B2 hg3
          go_wp2
          go_roundw
          case rel => exact ⟨s.size + 1, -1, ws ++ [x], [], by omega, by go_num, rfl, by simp; omega, own3, B3, hide fun h => by omega, J⟩
          case measure => first | (simp [intOf]; done) | (simp [intOf]; omega)
    · have hle' : ¬ (i : Int) ≤ s.size := by omega
      have OW := hide own
      have I3 := hide (I2.out (by omega))
      clear own I1 I2
      go_wp2
      go_ret
      exact ⟨_, ws, rfl, OW.out, I3.out, bel⟩

end Go.Proofs.YtdlogcdpapknaaaGreatDoor

/- The document's Lines, name, Digits (layer 25). -/
namespace Go.Proofs.YtdlogcdpapknaaaGreatDoor
open Go.RowKit
set_option linter.unusedVariables false
set_option maxRecDepth 100000

/-- What Lines gives back. -/
def LnsR (L : List UInt8) (w : World) (E : Ending) (w' : World) : Prop := ∃ v ws, E = .returned v ∧ OwnG fsc 1 9 w.heap.size w' v ws ∧ wl ws = Sct.lns L ∧ Below w.heap.size w w'

set_option maxHeartbeats 4000000 in
theorem linesR_any (s : ByteArray) (w : World) (hs : s.size ≤ 1000000) : Calls Tryz.prog 49 #[.string s] w (LnsR s.data.toList w) := by
  obtain ⟨L, hL⟩ : ∃ L, s.data.toList = L := ⟨_, rfl⟩
  have hLl : L.length = s.size := by rw [← hL, Lib.size_eq]
  rw [hL]
  have HL := hide hL
  have EX : Hid (∀ k i : Nat, (s.extract k i).data.toList = (L.drop k).take (i - k)) := hide fun k i => by rw [ext_list, hL]
  clear hL
  go_enter Tryz.func49, Tryz.ntmps49
  go_wp2
  go_loopw [3, 4, 5] (fun wv av iv wr => ∃ (i k : Nat) (ws : List ByteArray), i ≤ s.size ∧ k ≤ i ∧ iv = .int .i64 i ∧ av = .int .i64 k ∧ ws.length ≤ i ∧ OwnG fsc 1 9 w.heap.size wr wv ws ∧ Below w.heap.size w wr ∧ Hid (wl ws ++ Sct.lnsA ((L.drop k).take (i - k)) (L.drop i) = Sct.lns L)) (fun _ _ iv _ => s.size - (intOf iv).toNat)
  case atStart => exact ⟨0, 0, [], by omega, by omega, rfl, rfl, by simp, OwnG.nil _ _ _ _ _, Below.refl _ _, hide rfl⟩
  case round =>
    obtain ⟨i, k, ws, hi, hk, rfl, rfl, hwl, own, bel, I1⟩ := hrel
    have hbs := bel.size
    have hw := I1.out
    clear I1
    by_cases hlt : i < s.size
    · have hlt' : (i : Int) < s.size := by omega
      obtain ⟨c, hcc⟩ : ∃ c : UInt8, s[i]'hlt = c := ⟨_, rfl⟩
      have hat : L[i]? = some c := by rw [← HL.out]; exact str_at hlt hcc
      have hd := drop_at hat
      rw [hd, Sct.lnsA] at hw
      by_cases h10 : c = 10
      · subst h10
        rw [if_pos rfl] at hw
        obtain ⟨x, hx⟩ : ∃ x, s.extract k i = x := ⟨_, rfl⟩
        have hxl : x.data.toList = (L.drop k).take (i - k) := by rw [← hx]; exact EX.out k i
        have hk0 : (0 : Int) ≤ k := by omega
        have hki : (k : Int) ≤ i := by omega
        have J : Hid (wl (ws ++ [x]) ++ Sct.lnsA ((L.drop (i + 1)).take (i + 1 - (i + 1))) (L.drop (i + 1)) = Sct.lns L) := hide (by
          rw [show wl (ws ++ [x]) = wl ws ++ [x.data.toList] by simp [wl], hxl, List.append_assoc, Nat.sub_self, List.take_zero]
          exact hw)
        obtain ⟨wd, hwd, sd, bd, ownd⟩ := rows_step fsc 1 fsc_len 9 wr #[.string x] 1 [x] rfl rfl (by simp [maxLen])
        have own2 := own.below bd
        have B2 := bel.trans (bd.mono hbs)
        clear hw hd hat hxl
        go_wp2_with (at_builtin; refine wpList_append_rows fsc 1 16 fsc_len (by decide) (by decide) (.string ⟨#[]⟩) rfl rfl (.tmp 16) (.tmp 21) 29 rfl 9 (w.heap.size) Tryz.underlying29 Tryz.info9 _ ws rfl own2 _ [x] rfl ownd.row (fsc_one _) (by simp; omega) (by omega) ?_)
        intro v3 we own3 hg3
        have B3 := row_below own2 hg3 B2 B2.size (Nat.le_refl _)
        clear own2 ownd B2 hg3
        go_wp2
        go_roundw
        case rel => exact ⟨i + 1, i + 1, ws ++ [x], by omega, by omega, by go_num, by go_num, by simp; omega, own3, B3, J⟩
        case measure => first | (simp [intOf]; done) | (simp [intOf]; omega)
      · rw [if_neg h10] at hw
        have h10' : ((c.toNat : Int) == 10) = false := by
          have : c.toNat ≠ 10 := fun e => h10 (UInt8.toNat.inj e)
          simp
          omega
        have J : Hid (wl ws ++ Sct.lnsA ((L.drop k).take (i + 1 - k)) (L.drop (i + 1)) = Sct.lns L) := hide (by rw [cur_on hat hk]; exact hw)
        clear hw hd hat
        go_wp2
        go_roundw
        case rel => exact ⟨i + 1, k, ws, by omega, by omega, by go_num, rfl, by omega, own, bel, J⟩
        case measure => first | (simp [intOf]; done) | (simp [intOf]; omega)
    · have hlt' : ¬ (i : Int) < s.size := by omega
      obtain rfl : i = s.size := by omega
      have hdn : L.drop s.size = [] := List.drop_eq_nil_of_le (by omega)
      rw [hdn, Sct.lnsA] at hw
      by_cases hks : k < s.size
      · have hks' : (k : Int) < s.size := by omega
        rw [if_neg (cur_ne hks (by omega))] at hw
        obtain ⟨x, hx⟩ : ∃ x, s.extract k s.size = x := ⟨_, rfl⟩
        have hxl : x.data.toList = (L.drop k).take (s.size - k) := by rw [← hx]; exact EX.out k s.size
        have hk0 : (0 : Int) ≤ k := by omega
        have hki : (k : Int) ≤ s.size := by omega
        have J : Hid (wl (ws ++ [x]) = Sct.lns L) := hide (by
          rw [show wl (ws ++ [x]) = wl ws ++ [x.data.toList] by simp [wl], hxl]
          exact hw)
        obtain ⟨wd, hwd, sd, bd, ownd⟩ := rows_step fsc 1 fsc_len 9 wr #[.string x] 1 [x] rfl rfl (by simp [maxLen])
        have own2 := own.below bd
        have B2 := bel.trans (bd.mono hbs)
        clear hw hdn hxl
        go_wp2_with (at_builtin; refine wpList_append_rows fsc 1 16 fsc_len (by decide) (by decide) (.string ⟨#[]⟩) rfl rfl (.tmp 29) (.tmp 33) 29 rfl 9 (w.heap.size) Tryz.underlying29 Tryz.info9 _ ws rfl own2 _ [x] rfl ownd.row (fsc_one _) (by simp; omega) (by omega) ?_)
        intro v3 we own3 hg3
        have B3 := row_below own2 hg3 B2 B2.size (Nat.le_refl _)
        have OW := hide own3
        clear own2 ownd B2 hg3 own3
        go_wp2
        go_ret
        exact ⟨_, ws ++ [x], rfl, OW.out, J.out, B3⟩
      · have hks' : ¬ (k : Int) < s.size := by omega
        obtain rfl : k = s.size := by omega
        rw [Nat.sub_self, List.take_zero, if_pos rfl, List.append_nil] at hw
        have OW := hide own
        have J := hide hw
        clear own hw hdn
        go_wp2
        go_ret
        exact ⟨_, ws, rfl, OW.out, J.out, bel⟩

/-- A kind's first word, the document's. -/
theorem nameR_any (k : Nat) (w : World) (hk : k < 13) : Calls Tryz.prog 38 #[.int .i64 k] w fun E w' => E = .returned (.string (nmA k)) ∧ Below w.heap.size w w' := by
  obtain ⟨W, hW, sW, bW, own⟩ := rows_step fsc 1 fsc_len 9 w #[.string (nmA 0), .string (nmA 1), .string (nmA 2), .string (nmA 3), .string (nmA 4), .string (nmA 5), .string (nmA 6), .string (nmA 7), .string (nmA 8), .string (nmA 9), .string (nmA 10), .string (nmA 11), .string (nmA 12)] 13 [nmA 0, nmA 1, nmA 2, nmA 3, nmA 4, nmA 5, nmA 6, nmA 7, nmA 8, nmA 9, nmA 10, nmA 11, nmA 12] rfl rfl (by simp [maxLen])
  have hc : W.cell? ⟨w.heap.size, k, none⟩ = some (.string (nmA k)) := by
    have hx : ([nmA 0, nmA 1, nmA 2, nmA 3, nmA 4, nmA 5, nmA 6, nmA 7, nmA 8, nmA 9, nmA 10, nmA 11, nmA 12] : List ByteArray)[k]? = some (nmA k) := by
      obtain rfl | rfl | rfl | rfl | rfl | rfl | rfl | rfl | rfl | rfl | rfl | rfl | rfl : k = 0 ∨ k = 1 ∨ k = 2 ∨ k = 3 ∨ k = 4 ∨ k = 5 ∨ k = 6 ∨ k = 7 ∨ k = 8 ∨ k = 9 ∨ k = 10 ∨ k = 11 ∨ k = 12 := by omega
      all_goals rfl
    have := own.at fsc_len (i := k) (a := nmA k) hx (j := 0) (u := .string (nmA k)) rfl
    simpa using this
  rw [show (#[.string (nmA 0), .string (nmA 1), .string (nmA 2), .string (nmA 3), .string (nmA 4), .string (nmA 5), .string (nmA 6), .string (nmA 7), .string (nmA 8), .string (nmA 9), .string (nmA 10), .string (nmA 11), .string (nmA 12)] : Array Value) = #[.string ⟨#[]⟩, .string ⟨#[99, 111, 109, 109, 105, 116]⟩, .string ⟨#[114, 101, 97, 100]⟩, .string ⟨#[116, 105, 99, 107]⟩, .string ⟨#[112, 114, 111, 109, 111, 116, 101]⟩, .string ⟨#[102, 108, 117, 115, 104]⟩, .string ⟨#[100, 101, 108, 105, 118, 101, 114]⟩, .string ⟨#[116, 119, 105, 99, 101]⟩, .string ⟨#[100, 114, 111, 112]⟩, .string ⟨#[102, 117, 115, 101]⟩, .string ⟨#[112, 117, 108, 108]⟩, .string ⟨#[115, 116, 97, 114, 116]⟩, .string ⟨#[114, 111, 117, 110, 100]⟩] from rfl] at hW
  have hk' : (k : Int) < 13 := by omega
  have BW := hide bW
  clear own bW
  go_enter Tryz.func38, Tryz.ntmps38
  go_wp2
  go_ret
  exact ⟨rfl, BW.out⟩

end Go.Proofs.YtdlogcdpapknaaaGreatDoor

/- The document's Digits (layer 25). -/
namespace Go.Proofs.YtdlogcdpapknaaaGreatDoor
open Go.RowKit
set_option linter.unusedVariables false
set_option maxRecDepth 100000

/-- What Digits comes to. -/
def DgS (l : List UInt8) (w : World) (E : Ending) (w' : World) : Prop := ∃ s : ByteArray, E = .returned (.string s) ∧ s.data.toList = l ∧ w = w'

theorem dig_cut (n : Nat) (h : n < 10) : ((⟨#[48, 49, 50, 51, 52, 53, 54, 55, 56, 57]⟩ : ByteArray).extract n (n + 1)).data.toList = [Sct.dig n] := by
  obtain rfl | rfl | rfl | rfl | rfl | rfl | rfl | rfl | rfl | rfl : n = 0 ∨ n = 1 ∨ n = 2 ∨ n = 3 ∨ n = 4 ∨ n = 5 ∨ n = 6 ∨ n = 7 ∨ n = 8 ∨ n = 9 := by omega
  all_goals
    rw [ext_list]
    rfl

set_option maxHeartbeats 1000000 in
theorem digS_small (n : Nat) (h : n < 10) (w : World) : Calls Tryz.prog 79 #[.int .i64 n] w (DgS [Sct.dig n] w) := by
  have h1 : (n : Int) < 10 := by omega
  have h2 : (0 : Int) ≤ n := by omega
  have h3 : (n : Int) ≤ n + 1 := by omega
  have h4 : (n : Int) + 1 ≤ 10 := by omega
  have hw : IntKind.i64.wrap ((n : Int) + 1) = (n : Int) + 1 := wrap_i64_small _ (by omega) (by omega)
  have hn1 : ((n : Int) + 1).toNat = n + 1 := by omega
  have C := hide (dig_cut n h)
  go_enter Tryz.func79, Tryz.ntmps79
  go_wp2
  go_ret
  exact ⟨_, rfl, C.out, rfl⟩

set_option maxHeartbeats 1000000 in
theorem digS_any : ∀ (k n : Nat), n < 10 ^ (k + 1) → n ≤ 999999999 → ∀ w, Calls Tryz.prog 79 #[.int .i64 n] w (DgS (Sct.dgf k n) w) := by
  intro k
  induction k with
  | zero =>
    intro n hn _ w
    have hn : n < 10 := hn
    rw [Sct.dgf, Nat.mod_eq_of_lt hn]
    exact digS_small n hn w
  | succ k ih =>
    intro n hn hm w
    by_cases h : n < 10
    · rw [Sct.dgf, if_pos h]
      exact digS_small n h w
    · have hp : (10 : Nat) ^ (k + 2) = 10 * 10 ^ (k + 1) := by rw [Nat.pow_succ, Nat.mul_comm]
      have A := hide (ih (n / 10) (by rw [hp] at hn; omega) (by omega))
      have B : Hid (∀ w, Calls Tryz.prog 79 #[.int .i64 (n % 10 : Nat)] w (DgS [Sct.dig (n % 10)] w)) := hide (digS_small (n % 10) (by omega))
      have E2 : Hid (Sct.dgf (k + 1) n = Sct.dgf k (n / 10) ++ [Sct.dig (n % 10)]) := hide (by rw [Sct.dgf, if_neg h])
      have h' : ¬ (n : Int) < 10 := by omega
      have ed : (n : Int).tdiv 10 = ((n / 10 : Nat) : Int) := rfl
      have em : (n : Int).tmod 10 = ((n % 10 : Nat) : Int) := rfl
      have LD : Hid ((Sct.dgf k (n / 10)).length ≤ 10) := hide (Sct.dgf_len k (n / 10) 10 (Nat.lt_of_lt_of_le (show n / 10 < 1000000000 by omega) (by decide)) (by decide))
      obtain ⟨d, hd⟩ : ∃ d, n / 10 = d := ⟨_, rfl⟩
      obtain ⟨m, hm'⟩ : ∃ m, n % 10 = m := ⟨_, rfl⟩
      rw [hd] at A ed E2 LD
      rw [hm'] at B em E2
      have hwd : IntKind.i64.wrap (d : Int) = d := wrap_i64_small _ (by omega) (by omega)
      have hwm : IntKind.i64.wrap (m : Int) = m := wrap_i64_small _ (by omega) (by omega)
      obtain ⟨z, hz⟩ : ∃ z : Int, (n : Int) = z := ⟨_, rfl⟩
      rw [hz] at h' ed em ⊢
      clear hn h ih hp hd hm' hz hm
      go_enter Tryz.func79, Tryz.ntmps79
      go_wp2_with fail
      refine (A.out _).mono ?_
      rintro E w1 ⟨s, rfl, hs, rfl⟩
      have HS := hide hs
      clear hs A
      go_wp2_with fail
      refine (B.out _).mono ?_
      rintro E w1 ⟨t, rfl, ht, rfl⟩
      have hst : Hid ((s ++ t).data.toList = Sct.dgf (k + 1) n) := hide (by
        rw [E2.out, ← HS.out, ← ht]
        simp)
      have hs1 : s.size ≤ 10 := by rw [Lib.size_eq, HS.out]; exact LD.out
      have ht1 : t.size ≤ 1 := by rw [Lib.size_eq, ht]; exact Nat.le_refl _
      clear B E2 ht HS
      go_wp2
      go_ret
      exact ⟨_, rfl, hst.out, rfl⟩

theorem digS25 (n : Nat) (hn : n ≤ 999999999) (w : World) : Calls Tryz.prog 79 #[.int .i64 n] w (DgS (Sct.dg n) w) :=
  digS_any 20 n (by have : (10 : Nat) ^ 21 = 1000000000000000000000 := by decide
                    omega) hn w

end Go.Proofs.YtdlogcdpapknaaaGreatDoor
