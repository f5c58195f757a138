/- Texts of one layer, one behind the other. -/
import Derived.Test.YtfnaeblbodfekaaGQ
import Derived.Test.YtfnaeblbodfekaaGF
import Derived.Test.YtfnaeblbodfekaaGJ
/- Commits that have come across; the epoch of a log; the next ship. -/
namespace Go.Proofs.Ytfnaeblbodfekaa
open Go.RowKit
set_option linter.unusedVariables false

/-- The epoch of a log's last commit; 1, if there is none. -/
def epo17 (l : List Cm.Cv) : Int := if l.length = 0 then 1 else Cm.lastE 0 l

theorem epo_ok {l : List Cm.Cv} (h : Cm.Good 0 0 l) : Shp.lck (epo17 l) l = 0 ∧ 1 ≤ epo17 l ∧ epo17 l ≤ 1048576 := by
  have h1 : 1 ≤ epo17 l ∧ epo17 l ≤ 1048576 ∧ ¬ epo17 l < Cm.lastE 0 l := by
    unfold epo17
    split
    · rename_i h0
      rw [List.eq_nil_of_length_eq_zero h0]
      exact ⟨by omega, by omega, by show ¬ (1 : Int) < 0; omega⟩
    · rename_i h0
      have hp := Shp.prv_pos h l.length (Nat.le_refl _) (by omega)
      rw [List.take_length] at hp
      refine ⟨hp, ?_, by omega⟩
      have hl : l.length - 1 < l.length := by omega
      have hc := (Cm.good_at l 0 0 (l.length - 1) l[l.length - 1] h (List.getElem?_eq_getElem hl)).1
      have he := Shp.prv_is (l := l) (List.getElem?_eq_getElem hl)
      rw [show l.length - 1 + 1 = l.length by omega, List.take_length] at he
      rw [he]
      exact (Cm.chk_zero hc).2.1
  exact ⟨Shp.lck_ok (by omega) ((Cm.fol_good l 0 0 0).2 h) h1.2.2, h1.1, h1.2.1⟩

/-- What has come across. -/
structure Got (b : Nat) (w : World) (v : Value) (rs : List Cw) (l : List Cm.Cv) : Prop where
  c : OwnR 50 b w v rs
  o : CopyR b w rs
  i : ∀ c ∈ rs, In64 c.e ∧ In64 c.n
  f : FitC rs
  is : cvs rs = l

theorem Got.below {b : Nat} {w w' : World} {v : Value} {rs : List Cw} {l : List Cm.Cv} (h : Got b w v rs l) (hb : Below w.heap.size w w') : Got b w' v rs l := ⟨h.c.below hb, h.o.below hb, h.i, h.f, h.is⟩

theorem Got.isC {b : Nat} {w : World} {v : Value} {rs : List Cw} {l : List Cm.Cv} (h : Got b w v rs l) : IsC w v rs := ⟨h.c.row, fun c hc => ⟨(h.o c hc).is, h.i c hc⟩⟩

/-- What a ship brings is put behind it. -/
theorem Got.more {b : Nat} {w : World} {v vc : Value} {rs cs : List Cw} {l m : List Cm.Cv} (h : Got b w v rs l) (hb : b ≤ w.heap.size) (k : Got b w vc cs m) (hl : rs.length + cs.length ≤ 1000) :
    ∀ ty, ∃ v2 w2, (Builtin.append_ #[22, 22] ty #[v, vc]).run Try.prog w = .ok v2 w2 ∧ (∃ rs2, Hid (Got b w2 v2 rs2 (l ++ m)) ∧ w.grownBy w2 v.ownBlock) ∧ ∃ a n q, v2 = .slice a n q := fun ty => by
  obtain ⟨v2, w2, hr, own2, gr2, at2⟩ := run_append_coms_at (P := Try.prog) (w := w) 22 ty 50 b Try.underlying22 Try.info50 v rs h.c vc cs k.c.row (fun c hc => (k.o c hc).is.one) (by omega) hb
  have kt := KeepT.of_row h.c gr2
  have hmem : ∀ c ∈ rs ++ cs, c ∈ rs ∨ c ∈ cs := fun c hc => List.mem_append.1 hc
  refine ⟨v2, w2, hr, ⟨rs ++ cs, hide ⟨own2, fun c hc => ?_, fun c hc => ?_, fun c hc => ?_, ?_⟩, gr2⟩, ?_⟩
  · rcases hmem c hc with hc | hc
    · exact h.o.keepT kt c hc
    · exact k.o.keepT kt c hc
  · rcases hmem c hc with hc | hc
    · exact h.i c hc
    · exact k.i c hc
  · rcases hmem c hc with hc | hc
    · exact h.f c hc
    · exact k.f c hc
  · rw [← h.is, ← k.is]
    unfold cvs
    rw [List.map_append]
  · obtain ⟨a1, k1, h1, _⟩ := own2.row.shape
    exact ⟨a1, _, k1, h1⟩

/-- What the next ship of a log is. -/
theorem nxt_is {l : List Cm.Cv} (h : Cm.Good 0 0 l) (hl : l.length ≤ 40) (i : Nat) (hi : i ≤ l.length) : Shp.nxtE (epo17 l) l i = 0 ∧ (Shp.nxt (epo17 l) l i).f = (i : Int) + 1 ∧ (Shp.nxt (epo17 l) l i).cs = (l.drop i).take 4 ∧ Mm.Ok (Shp.nxt (epo17 l) l i) := by
  have h0 := (epo_ok h).1
  have hk := Shp.nxtE_ok (k := (i : Int)) h0 (by omega)
  refine ⟨hk.1, by rw [hk.2], by rw [hk.2, Int.toNat_natCast], Shp.nxt_ok hk.1⟩

end Go.Proofs.Ytfnaeblbodfekaa
