/- Texts of one layer, one behind the other. -/
import Derived.Test.YthmecljkackmbaaGreatZT
import Derived.Test.YthmecljkackmbaaGreatZ9
import Derived.Test.YthmecljkackmbaaGreatZJ4
import Derived.Test.YthmecljkackmbaaGreatZP
import Derived.Test.YthmecljkackmbaaGreatZ10
import Derived.Deep.RegionLaw
/- The law's sorted: what a table of ops tells. -/
namespace Go.Proofs.YthmecljkackmbaaGreat
open Go.RowKit
open Bm (Ov)
set_option linter.unusedVariables false

def srt (l : List Ov) : List Ov := l.foldl (fun t o => Tm.aft t [o]) []

theorem srt_next {l : List Ov} {k : Nat} {o : Ov} (h : l[k]? = some o) : srt (l.take (k + 1)) = Tm.aft (srt (l.take k)) [o] := by
  have hk : k < l.length := by
    rcases Nat.lt_or_ge k l.length with h' | h'
    · exact h'
    · rw [List.getElem?_eq_none h'] at h
      simp at h
  have ho : l[k] = o := by rw [List.getElem?_eq_getElem hk] at h; simpa using h
  unfold srt
  rw [List.take_succ_eq_append_getElem hk, List.foldl_append, ho]
  rfl

theorem aft_one (t : List Ov) (o : Ov) : Tm.aft t [o] = if o.c = 0 then Tm.one t o else t := by
  unfold Tm.aft
  by_cases h : o.c = 0
  · rw [if_pos h, if_pos (Bm.first_all fun x hx => by rw [List.mem_singleton.1 hx]; exact h)]
    rfl
  · rw [if_neg h, if_neg (by rw [Bm.first_bad (List.mem_singleton.2 rfl) h]; decide)]

theorem srt_take (l : List Ov) : ∀ k, k ≤ l.length → Tm.Up (srt (l.take k)) ∧ (∀ o ∈ srt (l.take k), o.c = 0) ∧ (srt (l.take k)).length ≤ k
  | 0, _ => ⟨List.Pairwise.nil, fun o ho => by simp [srt] at ho, by simp [srt]⟩
  | k + 1, hk => by
    obtain ⟨h1, h2, h3⟩ := srt_take l k (by omega)
    obtain ⟨o, ho⟩ : ∃ o, l[k]? = some o := ⟨l[k], by rw [List.getElem?_eq_getElem]⟩
    rw [srt_next ho, aft_one]
    split
    · rename_i hc
      refine ⟨Tm.up_one o h1, fun x hx => ?_, Nat.le_trans (Tm.one_len _ _) (by omega)⟩
      rcases (Tm.mem_one o x h1).1 hx with rfl | ⟨hx, _⟩
      · exact hc
      · exact h2 x hx
    · exact ⟨h1, h2, by omega⟩

theorem srt_is (l : List Ov) : Tm.Up (srt l) ∧ (∀ o ∈ srt l, o.c = 0) ∧ (srt l).length ≤ l.length := by
  have := srt_take l l.length (Nat.le_refl _)
  rwa [List.take_length] at this

theorem srt_chk (l : List Ov) (hl : l.length ≤ 40) (n : Int) (h1 : 1 ≤ n) (h2 : n ≤ 1048576) : Rn.chk n n (srt l) = 0 := by
  obtain ⟨a, b, c⟩ := srt_is l
  exact Rn.chk_ok (by omega) ⟨h1, by omega, h2, Rn.may_of b a⟩

theorem slice_one {P : Program} {w : World} {b off n cap : Nat} {l : List Ov} {o : Ov} {i : Nat} {t : TypeId} (h : IsO w (.slice (some ⟨b, off, none⟩) n cap) l) (ht : P.underlying t = some (.slice (P.elem t))) (hs : ∀ wx, (sizeOf (P.elem t)).run P wx = .ok 3 wx) (hi : l[i]? = some o) :
    (∀ wx, (Instr.slice t (.slice (some ⟨b, off, none⟩) n cap) (some (.int .i64 i)) (some (.int .i64 (i + 1))) none).run P wx = .ok (.slice (some ⟨b, off + i * 3, none⟩) 1 (cap - i)) wx) ∧ IsO w (.slice (some ⟨b, off + i * 3, none⟩) 1 (cap - i)) [o] := by
  have hil : i < l.length := by
    rcases Nat.lt_or_ge i l.length with h' | h'
    · exact h'
    · rw [List.getElem?_eq_none h'] at hi
      simp at hi
  obtain ⟨ao, cp, hv, h1, h2⟩ := h.shape
  simp only [Value.slice.injEq] at hv
  obtain ⟨_, rfl, rfl⟩ := hv
  obtain ⟨b', off', cap', hv, _, _, _, hc⟩ := h.full (by omega)
  simp only [Value.slice.injEq, Option.some.injEq, Addr.mk.injEq, and_true, true_and] at hv
  obtain ⟨⟨rfl, rfl⟩, rfl⟩ := hv
  obtain ⟨c0, c1, c2⟩ := hc i o hi
  refine ⟨fun wx => ?_, .inr ⟨_, _, rfl, by simp; omega, by omega, fun j u hj => ?_⟩⟩
  · rw [run_slice_lh wx t (some ⟨b, off, none⟩) l.length cap ht .i64 .i64 _ _ (by omega) (by omega) (by omega), hs]
    have hne : ¬ cap = i := by omega
    simp [Result.andThen, sliced, hne, Addr.add]
  · match j, hj with
    | 0, hj => simp [ocells, ocell] at hj; subst hj; simpa [Addr.add] using c0
    | 1, hj => simp [ocells, ocell] at hj; subst hj; simpa [Addr.add] using c1
    | 2, hj => simp [ocells, ocell] at hj; subst hj; simpa [Addr.add] using c2
    | j + 3, hj => simp [ocells, ocell] at hj

set_option maxHeartbeats 2000000 in
theorem sorted_any (v : Value) (l : List Ov) (w : World) (h : IsO w v l) (hf : FitO l) (hl : l.length ≤ 100000) :
    Calls Tryz.prog 156 #[v] w fun E w' => ∃ u, E = .returned u ∧ OwnO 81 w.heap.size w' u (srt l) ∧ Below w.heap.size w w' := by
  obtain ⟨ao, cap, hv, hcap, hmax⟩ := h.shape
  subst hv
  have HF := hide hf
  go_enter Tryz.func156, Tryz.ntmps156
  go_wp2_with fail
  refine (tnewR_any w).mono ?_
  rintro E w1 ⟨rfl, D1, b1⟩
  have DH := hide D1
  have BH := hide b1
  have IH := hide h
  clear D1 b1 h hf
  go_wp2
  go_loopw [4] (fun iv wr => ∃ (k : Nat) (u : Value), k ≤ l.length ∧ iv = .int .i64 k ∧ Hid (Dt w.heap.size w.heap.size wr u (srt (l.take k))) ∧ Hid (Below w.heap.size w wr)) (fun iv _ => l.length - (intOf iv).toNat)
  case atStart => exact ⟨0, _, by omega, rfl, DH, BH⟩
  case round =>
    obtain ⟨k, u, hk, rfl, DR, BR⟩ := hrel
    by_cases hlt : k < l.length
    · obtain ⟨o, ho⟩ : ∃ o, l[k]? = some o := ⟨l[k], by rw [List.getElem?_eq_getElem]⟩
      obtain ⟨b, off, cp, hvv, _, _, hbw, _⟩ := IH.out.full (by omega)
      simp only [Value.slice.injEq, true_and] at hvv
      obtain ⟨rfl, rfl⟩ := hvv
      obtain ⟨hsl, iso⟩ := slice_one (IH.out.below BR.out) Tryz.elemO Tryz.sizeO ho
      have hlt' : (k : Int) < l.length := by omega
      obtain ⟨g1, g2, g3⟩ := srt_take l k hk
      have HA := hide (applyR_any w.heap.size w.heap.size wr u _ _ [o] DR.out g1 iso (fun _ b' hb' => by simp [Value.ownBlock] at hb'; omega) (fun x hx => by rw [List.mem_singleton.1 hx]; exact HF.out o (List.mem_of_getElem? ho)) (by simp; omega) BR.out.size)
      rw [← srt_next ho] at HA
      clear iso g1 g2 g3
      go_wp2_with fail
      refine HA.out.mono ?_
      rintro E w2 ⟨rfl, ⟨u2, D2, _⟩, o2⟩
      have DH2 := hide D2
      have BH2 := hide (BR.out.trans (o2.below (fun g hg => by omega) BR.out.size))
      clear D2 o2 HA
      go_wp2
      go_roundw
      case rel => exact ⟨k + 1, u2, by omega, by go_num, DH2, BH2⟩
      case measure => simp [intOf]; omega
    · obtain rfl : k = l.length := by omega
      rw [List.take_length] at DR
      have HAL := hide (allR_any w.heap.size w.heap.size wr u _ DR.out (by have := (srt_is l).2.2; omega))
      go_wp2_with fail
      refine HAL.out.mono ?_
      rintro E w2 ⟨x, rfl, ox, bx⟩
      have OX := hide (ox.rebase (base' := w.heap.size) BR.out.size)
      have BX := hide (BR.out.trans (bx.mono BR.out.size))
      clear ox bx HAL
      go_wp2
      go_ret
      exact ⟨_, rfl, OX.out, BX.out⟩

end Go.Proofs.YthmecljkackmbaaGreat

/- The calls of a script of runs, in memory: small. -/
namespace Go.Proofs.YthmecljkackmbaaGreat
open Go.RowKit
set_option linter.unusedVariables false

/-- A call as it stands in memory. -/
structure Ac where
  k : Int
  n : Int
  t : Int
  c : Cw

def acc (a : Ac) : List Value := [.int .i64 a.k, .int .i64 a.n, .int .i64 a.t, .int .i64 a.c.e, .int .i64 a.c.n, a.c.v]
theorem acc_len (a : Ac) : (acc a).length = 6 := rfl

/-- What a call's parts are. -/
def AcOk (w : World) (a : Ac) : Prop := IsO w a.c.v a.c.l ∧ (I64 a.k ∧ I64 a.n ∧ I64 a.t) ∧ In64 a.c.e ∧ In64 a.c.n

/-- A slice of calls. -/
def IsQ (w : World) (v : Value) (l : List Ac) : Prop := RowG acc w v l ∧ ∀ a ∈ l, AcOk w a
def FitQ (l : List Ac) : Prop := ∀ a ∈ l, FitO a.c.l ∧ a.c.l.length * 40 ≤ 140737488351232

theorem AcOk.below {w w' : World} {a : Ac} (h : AcOk w a) (hb : Below w.heap.size w w') : AcOk w' a := ⟨h.1.below hb, h.2⟩
theorem IsQ.below {w w' : World} {v : Value} {l : List Ac} (h : IsQ w v l) (hb : Below w.heap.size w w') : IsQ w' v l := ⟨h.1.below hb, fun a ha => (h.2 a ha).below hb⟩

theorem IsQ.full {w : World} {v : Value} {l : List Ac} (h : IsQ w v l) (hne : 0 < l.length) :
    ∃ b off cap, v = .slice (some ⟨b, off, none⟩) l.length cap ∧ l.length ≤ cap ∧ cap ≤ maxLen ∧ b < w.heap.size ∧
      ∀ i a, l[i]? = some a → w.cell? ⟨b, off + i * 6, none⟩ = some (.int .i64 a.k) ∧ w.cell? ⟨b, off + i * 6 + 1, none⟩ = some (.int .i64 a.n) ∧ w.cell? ⟨b, off + i * 6 + 2, none⟩ = some (.int .i64 a.t) ∧ w.cell? ⟨b, off + i * 6 + 3, none⟩ = some (.int .i64 a.c.e) ∧ w.cell? ⟨b, off + i * 6 + 4, none⟩ = some (.int .i64 a.c.n) ∧ w.cell? ⟨b, off + i * 6 + 5, none⟩ = some a.c.v := by
  obtain ⟨b, off, cap, hv, h1, h2, h3, h4⟩ := h.1.full acc_len (by decide) hne
  refine ⟨b, off, cap, hv, h1, h2, h3, fun i a ha => ?_⟩
  have := h4 i a ha
  exact ⟨by simpa using this 0 _ rfl, by simpa using this 1 _ rfl, by simpa using this 2 _ rfl, by simpa using this 3 _ rfl, by simpa using this 4 _ rfl, by simpa using this 5 _ rfl⟩

/-- Is a script gone through? -/
def smQ (l : List Ac) : Bool := l.all (fun a => decide (a.c.l.length ≤ 40)) && decide (l.length ≤ 40)

set_option maxHeartbeats 1000000 in
theorem qsmall_any (v : Value) (l : List Ac) (w : World) (h : IsQ w v l) (hl : l.length ≤ 140737488355328) (hf : FitQ l) : Calls Tryz.prog 42 #[v] w fun E w' => E = .returned (.bool (smQ l)) ∧ w = w' := by
  have H := hide h
  have HFQ := hide hf
  obtain ⟨ao, cap, hv, hcap, hcm⟩ := h.1.shape
  subst hv
  clear h hf
  go_enter Tryz.func42, Tryz.ntmps42
  go_wp2
  go_loopw [3] (fun iv wr => ∃ k : Nat, k ≤ l.length ∧ iv = .int .i64 k ∧ w = wr ∧ Hid ((l.take k).all (fun a => decide (a.c.l.length ≤ 40)) = true)) (fun iv _ => l.length - (intOf iv).toNat)
  case atStart => exact ⟨0, by omega, rfl, rfl, hide (by simp)⟩
  case round =>
    obtain ⟨k, hk, rfl, rfl, HT⟩ := hrel
    by_cases hlt : k < l.length
    · obtain ⟨b, off, cq, hvx, _, _, hB, hcell⟩ := H.out.full (by omega)
      simp only [Value.slice.injEq, true_and] at hvx
      obtain ⟨rfl, rfl⟩ := hvx
      obtain ⟨a, ha⟩ : ∃ a, l[k]? = some a := ⟨l[k], by rw [List.getElem?_eq_getElem]⟩
      obtain ⟨_, _, _, _, _, e5⟩ := hcell k a ha
      obtain ⟨av, ac, hav, _, _⟩ := (H.out.2 a (List.mem_of_getElem? ha)).1.shape
      have hfl := (HFQ.out a (List.mem_of_getElem? ha)).2
      rw [hav] at e5
      have hlt' : (k : Int) < l.length := by omega
      have hk0 : (0 : Int) ≤ (k : Int) := by omega
      obtain ⟨hkl, hke⟩ := List.getElem?_eq_some_iff.1 ha
      by_cases hbig : a.c.l.length ≤ 40
      · have hb1 : ¬ (40 : Int) < (a.c.l.length : Int) := by omega
        have HT2 : Hid ((l.take (k + 1)).all (fun a => decide (a.c.l.length ≤ 40)) = true) := hide (by
          rw [List.take_succ_eq_append_getElem hkl, List.all_append, HT.out, hke]
          simp [hbig])
        clear hcell ha hke hav hfl
        go_wp2
        go_roundw
        case rel => exact ⟨k + 1, by omega, by go_num, trivial, HT2⟩
        case measure => simp [intOf]; omega
      · have hb1 : (40 : Int) < (a.c.l.length : Int) := by omega
        have hs : smQ l = false := by
          unfold smQ
          rw [Bool.and_eq_false_iff]
          left
          rw [List.all_eq_false]
          exact ⟨a, List.mem_of_getElem? ha, by simpa using hbig⟩
        have HS := hide hs
        clear hcell ha hke hav hs hfl
        go_wp2
        go_ret
        exact ⟨by rw [HS.out]; rfl, rfl⟩
    · have hlt' : ¬ (k : Int) < l.length := by omega
      have hs : smQ l = decide ((l.length : Int) ≤ 40) := by
        unfold smQ
        have hkl : l.take k = l := List.take_of_length_le (by omega)
        have := HT.out
        rw [hkl] at this
        rw [this, Bool.true_and]
        congr 1
        exact propext ⟨fun h => by omega, fun h => by omega⟩
      have HS := hide hs
      clear hs
      go_wp2
      go_ret
      exact ⟨by rw [HS.out]; rfl, rfl⟩

theorem Tryz.enters28 : ∀ args w, (callFunc 28 args).run Tryz.prog w = .ok (.enter 28 args) w := enters_of Tryz.func28 (by kernel_rfl) rfl

end Go.Proofs.YthmecljkackmbaaGreat
