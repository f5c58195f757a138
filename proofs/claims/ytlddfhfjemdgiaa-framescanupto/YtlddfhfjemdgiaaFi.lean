/- The document's Scan and Places. -/
import Derived.Test.YtlddfhfjemdgiaaFf
import Derived.Test.YtlddfhfjemdgiaaFh
namespace Go.Proofs.Ytlddfhfjemdgiaa
open Go.RowKit
set_option linter.unusedVariables false

set_option maxHeartbeats 2000000 in
theorem scanR_any (vb : Value) (bs : List Int) (w : World) (hb : Is .u8 w vb bs) (hl : bs.length ≤ 5000000000000) :
    Calls Try.prog 18 #[vb] w fun E w' => ∃ (v : Value) (r : List Bw), E = .returned (.tuple #[v, .int .i64 (Fm.cat (lsts r)).length]) ∧ OwnB w.heap.size w' v r ∧ Below w.heap.size w w' ∧ Hid (Fm.Sc bs (lsts r)) := by
  have HB := hide hb
  clear hb
  go_enter Try.func18, Try.ntmps18
  go_wp2
  go_loopw [4, 5] (fun rv gv wr => ∃ (r : List Bw) (g : Nat), gv = .int .i64 g ∧ Hid (g = (Fm.cat (lsts r)).length) ∧ g ≤ bs.length ∧ Hid (OwnB w.heap.size wr rv r) ∧ Below w.heap.size w wr ∧ Hid (Got bs r)) (fun _ gv _ => bs.length - (intOf gv).toNat)
  case atStart => exact ⟨[], 0, rfl, hide rfl, by omega, hide (OwnB.nil _ _), Below.refl _ _, hide (Got.nil bs)⟩
  case round =>
    obtain ⟨r, g, rfl, hg, hgl, OW, bel, GO⟩ := hrel
    have szr := bel.size
    obtain ⟨vs, hsl, isl⟩ := (HB.out.below bel).slice_l Try.elemP Try.sizeP g hgl
    have HR := hide (freadR_any vs _ wr isl (by rw [List.length_drop]; omega))
    clear isl
    go_wp2_with fail
    refine HR.out.mono ?_
    rintro E w1 ⟨v1, z, n, e, rfl, own1, bel1, R⟩
    clear HR hsl
    have he : e = 0 ∨ e = 5 := by
      rcases R.out with h | h
      · exact .inl h.1
      · exact .inr h.1
    rcases he with rfl | rfl
    · have R2 := R.out
      rw [hg.out] at R2
      obtain ⟨g1, g2, g3, g4⟩ := GO.out.next (v := v1) R2
      have gle := g1.le
      rw [← hg.out] at g2
      have hrl : r.length < bs.length := by
        have := gle.2
        rw [List.length_append] at this
        simp at this
        have := gle.1
        omega
      have G1 := hide g1
      obtain ⟨zo, zc, hv, _, _⟩ := own1.is.shape
      have hgn : g + n ≤ bs.length := by omega
      have G2 := hide g2
      have e1 : IntKind.i64.wrap ((g : Int) + (n : Int)) = (g : Int) + n := wrap_i64_small _ (by omega) (by omega)
      obtain ⟨w2, hw2, sz2, bel2, rown⟩ := rows_step bwc 1 bwc_len 22 w1 #[v1] 1 [⟨v1, z⟩] rfl rfl (by unfold maxLen; omega)
      have OW1 := OW.out.below bel1
      have OW2 := hide (OW1.below bel2)
      have b12 := bel1.trans (bel2.mono bel1.size)
      have O1 := hide (own1.below bel2)
      have sz1 := bel1.size
      have hlen : (r.length + 1) * 24 ≤ 140737488355328 := by omega
      have his := rown.row
      have hone := bwc_one [⟨v1, z⟩] (fun a ha => by simp at ha; subst ha; exact ⟨_, _, _, hv⟩)
      have X := hide (fun ty => run_append_rows_at (P := Try.prog) (w := w2) 26 ty bwc 1 24 bwc_len (by decide) (by decide) (.slice none 0 0) rfl 22 w.heap.size Try.underlying26 Try.info22 u4 r OW2.out.row _ [⟨v1, z⟩] his hone hlen (by omega))
      rw [hv] at X hw2
      clear R2 g1 g2 gle own1 bel1 bel2 rown his hone OW1 GO R
      go_wp2_with (at_builtin; refine wpList_append_at rfl (.tmp 21) (.tmp 23) 26 rfl _ _ rfl rfl X.out ?_)
      intro v3 w3 own3 gr3 _
      rw [← hv] at own3
      have fin := hide (OW.out.app b12 (by omega) (a := ⟨v1, z⟩) O1.out own3 gr3)
      have b3 : Below w.heap.size w w3 := (bel.trans (b12.mono szr)).grown gr3 (by omega) (fun k hk => (OW.out.row.lt k hk).1)
      clear own3 gr3 OW OW2 O1 b12 X
      go_wp2
      go_roundw
      case rel => exact ⟨r ++ [⟨v1, z⟩], g + n, by go_num, hide G2.out.symm, hgn, fin, b3, G1⟩
      case measure => simp [intOf]; omega
    · have R2 := R.out
      rw [hg.out] at R2
      have D := hide (GO.out.done R2)
      have OW1 := hide (OW.out.below bel1)
      have b3 : Below w.heap.size w w1 := bel.trans (bel1.mono szr)
      clear R2 R GO OW own1 bel1 bel
      go_wp2
      go_ret2
      exact ⟨_, r, by rw [hg.out]; rfl, OW1.out, b3, D⟩

/-- Gone over so far: the places. -/
def GotP (bs : List Int) (l : List (List Int)) : Prop := (∀ z ∈ l, z.length ≤ 131072) ∧ Fm.cat l <+: bs

theorem GotP.next {bs z : List Int} {l : List (List Int)} {n : Nat} (h : GotP bs l) (hr : Fm.Rd (bs.drop (Fm.cat l).length) z n 0) : GotP bs (l ++ [z]) ∧ (Fm.cat (l ++ [z])).length = (Fm.cat l).length + n ∧ 1 ≤ n := by
  rcases hr with ⟨_, h1, h2, h3⟩ | ⟨h0, _⟩
  · obtain ⟨g1, g2⟩ := Fm.sc_next h.2 h3
    have hz := Vm.sz_pos z.length
    refine ⟨⟨fun a ha => ?_, g1⟩, by omega, by omega⟩
    rcases List.mem_append.1 ha with ha | ha
    · exact h.1 a ha
    · simp at ha
      subst ha
      exact h1
  · cases h0

theorem GotP.done {bs z : List Int} {l : List (List Int)} {n : Nat} (h : GotP bs l) (hr : Fm.Rd (bs.drop (Fm.cat l).length) z n 5) : Fm.Sc bs l := by
  rcases hr with ⟨h0, _⟩ | ⟨_, _, _, h3⟩
  · cases h0
  · exact ⟨h.1, h.2, h3⟩

def ints (l : List Nat) : List Int := l.map fun (n : Nat) => (n : Int)

set_option maxHeartbeats 2000000 in
theorem placesR_any (vb : Value) (bs : List Int) (w : World) (hb : Is .u8 w vb bs) (hl : bs.length ≤ 5000000000000) :
    Calls Try.prog 20 #[vb] w fun E w' => ∃ (v : Value) (l : List (List Int)), E = .returned v ∧ Own .i64 3 w.heap.size w' v (ints (Fm.plc 0 l)) ∧ Below w.heap.size w w' ∧ Hid (Fm.Sc bs l) := by
  have HB := hide hb
  clear hb
  go_enter Try.func20, Try.ntmps20
  go_wp2
  go_loopw [3, 4] (fun rv gv wr => ∃ (l : List (List Int)) (g : Nat), gv = .int .i64 g ∧ Hid (g = (Fm.cat l).length) ∧ g ≤ bs.length ∧ l.length ≤ g ∧ Hid (Own .i64 3 w.heap.size wr rv (ints (Fm.plc 0 l))) ∧ Below w.heap.size w wr ∧ Hid (GotP bs l)) (fun _ gv _ => bs.length - (intOf gv).toNat)
  case atStart => exact ⟨[], 0, rfl, hide rfl, by omega, by simp, hide (Own.nil _ _ _ _), Below.refl _ _, hide ⟨by simp, by simp [Fm.cat]⟩⟩
  case round =>
    obtain ⟨l, g, rfl, hg, hgl, hll, OW, bel, GO⟩ := hrel
    have szr := bel.size
    obtain ⟨vs, hsl, isl⟩ := (HB.out.below bel).slice_l Try.elemP Try.sizeP g hgl
    have HR := hide (freadR_any vs _ wr isl (by rw [List.length_drop]; omega))
    clear isl
    go_wp2_with fail
    refine HR.out.mono ?_
    rintro E w1 ⟨v1, z, n, e, rfl, own1, bel1, R⟩
    clear HR hsl
    have he : e = 0 ∨ e = 5 := by
      rcases R.out with h | h
      · exact .inl h.1
      · exact .inr h.1
    rcases he with rfl | rfl
    · have R2 := R.out
      rw [hg.out] at R2
      obtain ⟨g1, g2, g3⟩ := GO.out.next R2
      have gle := g1.2.length_le
      rw [← hg.out] at g2
      have G1 := hide g1
      have hgn : g + n ≤ bs.length := by omega
      have G2 := hide g2
      have e1 : IntKind.i64.wrap ((g : Int) + (n : Int)) = (g : Int) + n := wrap_i64_small _ (by omega) (by omega)
      have W := wf_i64 (z := (g : Int)) (by omega) (by omega)
      obtain ⟨w2, hw2, sz2, bel2, own2⟩ := own_step .i64 3 w1 #[.int .i64 g] 1 [(g : Int)] rfl rfl (by simp [maxLen]) (by simpa using W)
      have b12 := bel1.trans (bel2.mono bel1.size)
      have OW2 := OW.out.below b12
      have IS2 := own2.is
      have sz1 := bel1.size
      have PL : Hid (ints (Fm.plc 0 l) ++ [(g : Int)] = ints (Fm.plc 0 (l ++ [z]))) := hide (by rw [Fm.plc_snoc, hg.out]; simp [ints])
      have pl : (ints (Fm.plc 0 l)).length = l.length := by simp [ints, Fm.plc_len]
      generalize ints (Fm.plc 0 l) = q at *
      clear R2 g1 g2 gle own1 bel1 bel2 own2 GO R OW
      go_wp2_with (at_builtin; refine wpList_append_is rfl (.tmp 19) (.tmp 21) 36 rfl .i64 3 w.heap.size 8 Try.underlying36 Try.info3 (by decide) _ q rfl OW2 _ [(g : Int)] rfl IS2 (by simp; omega) (by omega) ?_)
      intro v3 w3 own3 bel3 _
      rw [PL.out] at own3
      have O3 := hide own3
      have b3 : Below w.heap.size w w3 := (bel.trans (b12.mono szr)).trans bel3
      clear own3 bel3 OW2 IS2 b12
      go_wp2
      go_roundw
      case rel => exact ⟨l ++ [z], g + n, by go_num, hide G2.out.symm, hgn, by simp; omega, O3, b3, G1⟩
      case measure => simp [intOf]; omega
    · have R2 := R.out
      rw [hg.out] at R2
      have D := hide (GO.out.done R2)
      have OW1 := hide (OW.out.below bel1)
      have b3 : Below w.heap.size w w1 := bel.trans (bel1.mono szr)
      clear R2 R GO OW own1 bel1 bel
      go_wp2
      go_ret
      exact ⟨_, l, rfl, OW1.out, b3, D⟩

end Go.Proofs.Ytlddfhfjemdgiaa
