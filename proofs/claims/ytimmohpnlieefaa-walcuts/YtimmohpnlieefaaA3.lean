/- Texts of one layer, one behind the other. -/
import Derived.Test.YtimmohpnlieefaaA1
import Derived.Test.YtimmohpnlieefaaA2
import Derived.Deep.RegionHeld3
import Derived.Maps.AppendAt
import Derived.Lib.SliceRun
/- Rows of starts in memory; the contracts of starts' lastEpoch, rise and Check, and of the document's Check and epoch. -/
namespace Go.Proofs.Ytimmohpnlieefaa
open Go.RowKit
set_option linter.unusedVariables false

/-- A start's cells. -/
def stc (s : Sm.S) : List Value := [.int .i64 s.1, .int .i64 s.2]
theorem stc_len (s : Sm.S) : (stc s).length = 2 := rfl

abbrev RowS (w : World) (v : Value) (l : List Sm.S) : Prop := RowG stc w v l
abbrev OwnS (base : Nat) (w : World) (v : Value) (l : List Sm.S) : Prop := OwnG stc 2 103 base w v l

theorem stc_one : ∀ (l : List Sm.S), ∀ u ∈ gcells stc l, u.oneCell' = true
  | [], u, h => by simp [gcells] at h
  | s :: r, u, h => by
    rcases List.mem_append.1 h with h | h
    · simp only [stc, List.mem_cons, List.not_mem_nil, or_false] at h
      rcases h with rfl | rfl <;> rfl
    · exact stc_one r u h

theorem rowS_full {w : World} {v : Value} {l : List Sm.S} (h : RowS w v l) (hne : 0 < l.length) :
    ∃ b off cap, v = .slice (some ⟨b, off, none⟩) l.length cap ∧ l.length ≤ cap ∧ cap ≤ maxLen ∧ b < w.heap.size ∧ ∀ (i : Nat) (s : Sm.S), l[i]? = some s → w.cell? ⟨b, off + i * 2, none⟩ = some (.int .i64 s.1) ∧ w.cell? ⟨b, off + i * 2 + 1, none⟩ = some (.int .i64 s.2) := by
  obtain ⟨b, off, cap, h1, h2, h3, h4, h5⟩ := h.full stc_len (by decide) hne
  exact ⟨b, off, cap, h1, h2, h3, h4, fun i s hs => ⟨h5 i s hs 0 _ rfl, h5 i s hs 1 _ rfl⟩⟩

theorem rowS_drewN {w : World} {v : Value} {l : List Sm.S} (h : RowS w v l) (n : Nat) : RowS (w.drewN n) v l := h.agree fun _ _ => rfl

/-- An element of a row. -/
theorem at_of {α : Type} {l : List α} {k : Nat} (h : k < l.length) : ∃ s, l[k]? = some s := ⟨l[k], List.getElem?_eq_getElem h⟩

set_option maxHeartbeats 400000 in
theorem lastE_any (v : Value) (l : List Sm.S) (w : World) (h : RowS w v l) (hl : l.length ≤ 140737488355328) :
    Calls Try.prog 94 #[v] w fun E w' => E = .returned (.int .i64 (Sm.lst l)) ∧ w' = w := by
  by_cases hz : l.length = 0
  · have : l = [] := List.eq_nil_of_length_eq_zero hz
    subst this
    obtain ⟨ao, cap, rfl, _, _⟩ := h.shape
    simp only [List.length_nil]
    clear h hl hz
    go_enter Try.func94, Try.ntmps94
    go_wp2
    go_ret
    exact ⟨rfl, rfl⟩
  · obtain ⟨b, off, cap, rfl, _, _, hB, hc⟩ := rowS_full h (by omega)
    obtain ⟨s, hs⟩ := at_of (l := l) (k := l.length - 1) (by omega)
    obtain ⟨c0, c1⟩ := hc _ _ hs
    rw [Sm.lst_at hs]
    generalize hn : l.length = n at *
    obtain ⟨k, rfl⟩ : ∃ k, n = k + 1 := ⟨n - 1, by omega⟩
    simp only [Nat.add_sub_cancel] at c0 c1
    clear h hc hs hn
    have hne : ((((k + 1 : Nat) : Int)) == 0) = false := by simp; omega
    have hsub : (((k + 1 : Nat) : Int)) - 1 = (k : Int) := by omega
    go_enter Try.func94, Try.ntmps94
    go_wp2
    go_ret
    exact ⟨rfl, rfl⟩

theorem head_at {l : List Sm.S} {s : Sm.S} (h : l[0]? = some s) : (l.map Prod.snd).headD 1 = s.2 := by
  cases l with
  | nil => simp at h
  | cons t r => simp at h; subst h; rfl

theorem both_zero {n : Nat} {en : Int} (h : n = 0 ↔ en = 0) : ∃ b : Bool, ((n : Int) == 0) = b ∧ (en == 0) = b := by
  by_cases hn : n = 0
  · exact ⟨true, by simp [hn], by simp [h.1 hn]⟩
  · exact ⟨false, by simp; omega, by simp; exact fun e => hn (h.2 e)⟩

theorem one_zero {n : Nat} {en : Int} (h : ¬ (n = 0 ↔ en = 0)) : (((n : Int) == 0) = true ∧ (en == 0) = false) ∨ (((n : Int) == 0) = false ∧ (en == 0) = true) := by
  by_cases hn : n = 0
  · exact .inl ⟨by simp [hn], by simp; exact fun e => h ⟨fun _ => e, fun _ => hn⟩⟩
  · refine .inr ⟨by simp; omega, ?_⟩
    simp
    rcases Classical.em (en = 0) with g | g
    · exact g
    · exact absurd ⟨fun k => absurd k hn, fun k => absurd k g⟩ h

end Go.Proofs.Ytimmohpnlieefaa

/- The contracts of the laws' copies of ops: CopyOps, LentOps, KeptOps. -/
namespace Go.Proofs.Ytimmohpnlieefaa
open Go.RowKit
set_option linter.unusedVariables false

/-- What stands behind ops that are lent. -/
def behind : Bm.Ov := ⟨true, ⟨#[98, 101, 104, 105, 110, 100]⟩, ⟨#[]⟩⟩

set_option maxHeartbeats 400000 in
theorem copyO_any (vl : Value) (l : List Bm.Ov) (w : World) (h : IsO w vl l) (hl : l.length * 40 ≤ 140737488355328) :
    Calls Try.prog 89 #[vl] w fun e w' => ∃ v, e = .returned v ∧ OwnO 87 w.heap.size w' v l ∧ Below w.heap.size w w' := by
  obtain ⟨w1, hw1, sz1, bel1, own1⟩ := ops_step 87 w #[] 0 [] rfl rfl (by simp [maxLen])
  have h1 := h.below bel1
  go_enter Try.func89, Try.ntmps89
  go_wp2_with (at_builtin; refine wpList_append_ops rfl (.tmp 3) (.tmp 4) 30 rfl 87 w.heap.size Try.underlying30 Try.info87 _ [] rfl own1 _ l rfl h1 (by simp; omega) (by omega) ?_)
  intro v2 w2 own2 bel2 _
  go_wp2
  go_ret
  exact ⟨_, rfl, by simpa using own2, bel1.trans bel2⟩

end Go.Proofs.Ytimmohpnlieefaa

/- The contracts of the laws' copies of one commit: CopyCommit, LentCommit, KeptCommit. -/
namespace Go.Proofs.Ytimmohpnlieefaa
open Go.RowKit
set_option linter.unusedVariables false

/-- A slice of ops that was lent: those behind it stand in its room. -/
def LentV (base : Nat) (w : World) (v : Value) (l : List Bm.Ov) : Prop :=
  ∃ g cap, v = .slice (some ⟨g, 0, none⟩) l.length cap ∧ l.length + 3 ≤ cap ∧ cap ≤ maxLen ∧ OwnO 87 base w (.slice (some ⟨g, 0, none⟩) (l.length + 3) cap) (l ++ [behind, behind, behind])

theorem LentV.is {base : Nat} {w : World} {v : Value} {l : List Bm.Ov} (h : LentV base w v l) : IsO w v l := by
  obtain ⟨g, cap, rfl, hc, hm, ho⟩ := h
  have := ho.is.front l.length (by simp)
  rwa [List.take_left] at this

theorem LentV.below {base : Nat} {w w' : World} {v : Value} {l : List Bm.Ov} (h : LentV base w v l) (hb : Below w.heap.size w w') : LentV base w' v l := by
  obtain ⟨g, cap, rfl, hc, hm, ho⟩ := h
  exact ⟨g, cap, rfl, hc, hm, ho.below hb⟩

theorem LentV.keepT {e' base : Nat} {w w' : World} {v : Value} {l : List Bm.Ov} (h : LentV base w v l) (k : KeepT e' w w') (hne : 87 ≠ e') : LentV base w' v l := by
  obtain ⟨g, cap, rfl, hc, hm, ho⟩ := h
  exact ⟨g, cap, rfl, hc, hm, ho.keepT k hne⟩

theorem LentV.rebase {base base' : Nat} {w : World} {v : Value} {l : List Bm.Ov} (h : LentV base w v l) (hb : base' ≤ base) : LentV base' w v l := by
  obtain ⟨g, cap, rfl, hc, hm, ho⟩ := h
  exact ⟨g, cap, rfl, hc, hm, ho.rebase hb⟩

theorem lent_of {base : Nat} {w : World} {v : Value} {l : List Bm.Ov} (h : OwnO 87 base w v (l ++ [behind, behind, behind])) :
    ∃ g cap, v = .slice (some ⟨g, 0, none⟩) (l.length + 3) cap ∧ l.length + 3 ≤ cap ∧ cap ≤ maxLen ∧ OwnO 87 base w (.slice (some ⟨g, 0, none⟩) (l.length + 3) cap) (l ++ [behind, behind, behind]) := by
  have h' := h
  rcases h.2 with ⟨_, hn⟩ | ⟨g, cap, cur, hv, h1, hh, hc, hm, hs, ht⟩
  · simp at hn
  · rw [List.length_append, show [behind, behind, behind].length = 3 from rfl] at hv hc
    exact ⟨g, cap, hv, hc, hm, hv ▸ h'⟩

theorem run_front (g n m cap p : Nat) (hp : p ≤ cap) (wx : World) : (Instr.slice 30 (.slice (some ⟨g, 0, none⟩) n cap) none (some (.int .i64 p)) none).run Try.prog wx = .ok (.slice (some ⟨g, 0, none⟩) p cap) wx := by
  rw [run_slice_h wx 30 (some ⟨g, 0, none⟩) n cap Try.elemO .i64 _ (by omega) (by omega), Try.sizeO]
  simp only [Result.andThen, sliced]
  simp [Addr.add]

set_option maxHeartbeats 1000000 in
theorem copyC_any (e n : Int) (v : Value) (l : List Bm.Ov) (w : World) (h : IsO w v l) (hl : l.length * 40 ≤ 140737488351232) :
    Calls Try.prog 66 #[cmv e n v] w fun E w' => ∃ v', E = .returned (cmv e n v') ∧ OwnO 87 w.heap.size w' v' l ∧ Below w.heap.size w w' := by
  unfold cmv
  obtain ⟨w1, hw1, sz1, bel1, hB⟩ := blk_step w #[.int .i64 e, .int .i64 n, v] 32
  obtain ⟨w2, hw2, sz2, bel2, hR⟩ := blk_step w1 #[.int .i64 0, .int .i64 0, .slice none 0 0] 32
  rw [sz1] at hR
  have hB2 := (bel2.block w.heap.size (by omega)).trans hB
  have bel02 : Below w.heap.size w w2 := bel1.trans (bel2.mono (by omega))
  have h2 := h.below bel02
  obtain ⟨ao, cap, rfl, _, _⟩ := h.shape
  have c0 := blk_cell hB2 0 rfl
  have c1 := blk_cell hB2 1 rfl
  have c2 := blk_cell hB2 2 rfl
  have HB := hide hB2
  have HR := hide hR
  clear hB hB2 hR bel1 bel2
  go_enter Try.func66, Try.ntmps66
  go_wp2_with fail
  go_region_held3 (fun w' => w'.cell? ⟨w.heap.size, 0, none⟩ = some (.int .i64 e) ∧ w'.cell? ⟨w.heap.size, 1, none⟩ = some (.int .i64 n) ∧ w'.cell? ⟨w.heap.size, 2, none⟩ = some (.slice ao l.length cap)) (first | exact ⟨c0, c1, c2⟩ | exact ⟨a0, a1, a2⟩ | exact ⟨b0, b1, b2⟩ | go_keep)
    (first
    | (go_at_call 89; refine (copyO_any _ l _ (h2.drewN 1) (by omega)).mono ?_; rintro E w3 ⟨v3, rfl, own3, bel3'⟩; have bel3 : Below w2.heap.size w2 w3 := ((Below.refl _ _).drew).trans bel3'; have sz3 := bel3.size; have hB3 := (bel3.block w.heap.size (by omega)).trans HB.out; have hR3 := (bel3.block (w.heap.size + 1) (by omega)).trans HR.out; have a0 := blk_cell hB3 0 rfl; have a1 := blk_cell hB3 1 rfl; have a2 := blk_cell hB3 2 rfl; obtain ⟨ah, ch, hv3, _, _⟩ := own3.is.shape; subst hv3; obtain ⟨V', hV', bV', gV', ⟨r0, r1, r2⟩, ⟨f0, f1, f2⟩, ⟨z0, z1, z2⟩⟩ := res_step hR3 (.int .i64 e) (.int .i64 n) (.slice ah l.length ch); have belV' := below_put (bel02.trans (bel3.mono (by omega))) gV' (by omega) (by omega); have szV := gV'.size; have ownV' := (own3.keptg gV' (show w.heap.size + 1 < w2.drew.heap.size by simp; omega)).rebase (base' := w.heap.size) (show w.heap.size ≤ w2.drew.heap.size by simp; omega); have hBV := (gV'.block w.heap.size (by omega) (by simp)).trans hB3; have b0 := blk_cell hBV 0 rfl; have b1 := blk_cell hBV 1 rfl; have b2 := blk_cell hBV 2 rfl; clear bel3' hB3 hR3 own3 bV' gV' hBV))
  go_wp2
  refine bodyPost_ret (v := .agg #[.int .i64 e, .int .i64 n, .slice ah l.length ch]) (by simp [results, Try.results66, go_sem, z0, z1, z2]) rfl ?_
  exact ⟨_, rfl, ownV', belV'⟩

end Go.Proofs.Ytimmohpnlieefaa

/- The contracts of the laws' copies of lists of commits: CopyCommits, LentCommits, KeptCommits. -/
namespace Go.Proofs.Ytimmohpnlieefaa
open Go.RowKit
set_option linter.unusedVariables false

theorem cw_ext {c d : Cw} (h : c.c = d.c) : c.e = d.e ∧ c.n = d.n ∧ c.l = d.l := by
  unfold Cw.c at h
  simpa using h

theorem cvs_at {r s : List Cw} (h : cvs r = cvs s) {k : Nat} {c : Cw} (hc : r[k]? = some c) : ∃ d, s[k]? = some d ∧ c.e = d.e ∧ c.n = d.n ∧ c.l = d.l := by
  have h1 : (cvs r)[k]? = some c.c := by unfold cvs; rw [List.getElem?_map, hc]; rfl
  rw [h] at h1
  unfold cvs at h1
  rw [List.getElem?_map, Option.map_eq_some_iff] at h1
  obtain ⟨d, hd, he⟩ := h1
  obtain ⟨e1, e2, e3⟩ := cw_ext he
  exact ⟨d, hd, e1.symm, e2.symm, e3.symm⟩

theorem cvs_len {r s : List Cw} (h : cvs r = cvs s) : r.length = s.length := by
  have := congrArg List.length h
  simpa [cvs] using this

theorem cvs_take (r : List Cw) (k : Nat) : cvs (r.take k) = (cvs r).take k := by unfold cvs; rw [List.map_take]

theorem cvs_snoc {rs r : List Cw} {k : Nat} {c d : Cw} (h : cvs rs = cvs (r.take k)) (hd : r[k]? = some d) (he : c.c = d.c) : cvs (rs ++ [c]) = cvs (r.take (k + 1)) := by
  obtain ⟨hk, rfl⟩ := List.getElem?_eq_some_iff.1 hd
  rw [List.take_succ_eq_append_getElem hk]
  unfold cvs at h ⊢
  rw [List.map_append, List.map_append, h]
  simp [he]

/-- The loop of CopyCommits: what was made of the first ones. -/
def CopyR (base : Nat) (w : World) (rs : List Cw) : Prop := ∀ c ∈ rs, OwnO 87 base w c.v c.l
def LentR (base : Nat) (w : World) (rs : List Cw) : Prop := ∀ c ∈ rs, LentV base w c.v c.l

theorem CopyR.inC {base : Nat} {w : World} {rs r : List Cw} (h : CopyR base w rs) (he : cvs rs = cvs r) {w' : World} (hr : InC w' r) : InC w rs := by
  intro c hc
  obtain ⟨k, hk⟩ := List.getElem?_of_mem hc
  obtain ⟨d, hd, e1, e2, _⟩ := cvs_at he hk
  obtain ⟨_, i1, i2⟩ := hr d (List.mem_of_getElem? hd)
  exact ⟨(h c hc).is, by rw [e1]; exact i1, by rw [e2]; exact i2⟩

theorem LentR.inC {base : Nat} {w : World} {rs r : List Cw} (h : LentR base w rs) (he : cvs rs = cvs r) {w' : World} (hr : InC w' r) : InC w rs := by
  intro c hc
  obtain ⟨k, hk⟩ := List.getElem?_of_mem hc
  obtain ⟨d, hd, e1, e2, _⟩ := cvs_at he hk
  obtain ⟨_, i1, i2⟩ := hr d (List.mem_of_getElem? hd)
  exact ⟨(h c hc).is, by rw [e1]; exact i1, by rw [e2]; exact i2⟩

theorem fit_same {rs r : List Cw} (he : cvs rs = cvs r) (hr : FitC r) : FitC rs := by
  intro c hc
  obtain ⟨k, hk⟩ := List.getElem?_of_mem hc
  obtain ⟨d, hd, _, _, e3⟩ := cvs_at he hk
  rw [e3]
  exact hr d (List.mem_of_getElem? hd)

theorem CopyR.below {base : Nat} {w w' : World} {rs : List Cw} (h : CopyR base w rs) (hb : Below w.heap.size w w') : CopyR base w' rs := fun c hc => (h c hc).below hb
theorem LentR.below {base : Nat} {w w' : World} {rs : List Cw} (h : LentR base w rs) (hb : Below w.heap.size w w') : LentR base w' rs := fun c hc => (h c hc).below hb
theorem CopyR.keepT {base : Nat} {w w' : World} {rs : List Cw} (h : CopyR base w rs) (hb : KeepT 32 w w') : CopyR base w' rs := fun c hc => (h c hc).keepT hb (by decide)
theorem LentR.keepT {base : Nat} {w w' : World} {rs : List Cw} (h : LentR base w rs) (hb : KeepT 32 w w') : LentR base w' rs := fun c hc => (h c hc).keepT hb (by decide)
theorem CopyR.snoc {base : Nat} {w : World} {rs : List Cw} (h : CopyR base w rs) {c : Cw} (hc : OwnO 87 base w c.v c.l) : CopyR base w (rs ++ [c]) := fun d hd => (List.mem_append.1 hd).elim (h d) (fun h => by rw [List.mem_singleton.1 h]; exact hc)
theorem LentR.snoc {base : Nat} {w : World} {rs : List Cw} (h : LentR base w rs) {c : Cw} (hc : LentV base w c.v c.l) : LentR base w (rs ++ [c]) := fun d hd => (List.mem_append.1 hd).elim (h d) (fun h => by rw [List.mem_singleton.1 h]; exact hc)

set_option maxHeartbeats 1000000 in
theorem copyCs_any (vl : Value) (r : List Cw) (w : World) (h : IsC w vl r) (hf : FitC r) (hl : r.length ≤ 1000) :
    Calls Try.prog 29 #[vl] w fun E w' => ∃ v rs, E = .returned v ∧ OwnR 32 w.heap.size w' v rs ∧ cvs rs = cvs r ∧ CopyR w.heap.size w' rs ∧ Below w.heap.size w w' := by
  by_cases hz : r.length = 0
  · have : r = [] := List.eq_nil_of_length_eq_zero hz
    subst this
    obtain ⟨ao, cap, rfl, _, _⟩ := h.1.shape
    clear h hf hl hz
    simp only [List.length_nil]
    go_enter Try.func29, Try.ntmps29
    go_wp2
    go_loopw [3, 4] (fun ov iv wr => ov = .slice none 0 0 ∧ iv = .int .i64 0 ∧ wr = w) (fun _ _ _ => 0)
    case atStart => exact ⟨rfl, rfl, rfl⟩
    case round =>
      obtain ⟨rfl, rfl, rfl⟩ := hrel
      go_wp2
      go_ret
      exact ⟨_, [], rfl, OwnR.nil _ _ _, rfl, fun c hc => by simp at hc, Below.refl _ _⟩
  obtain ⟨b1, o1, c1, hvl, _, _, hB, hcell⟩ := h.1.full (by omega)
  subst hvl
  have HIN := hide h.2
  have HFIT := hide hf
  have HC := hide hcell
  generalize hn : r.length = n at *
  have HN := hide hn
  clear h hcell hf hn
  go_enter Try.func29, Try.ntmps29
  go_wp2
  go_loopw [3, 4] (fun ov iv wr => ∃ (k : Nat) (rs : List Cw), k ≤ n ∧ iv = .int .i64 k ∧ rs.length = k ∧ Hid (OwnR 32 w.heap.size wr ov rs ∧ cvs rs = cvs (r.take k) ∧ CopyR w.heap.size wr rs) ∧ Below w.heap.size w wr) (fun _ iv _ => n - (intOf iv).toNat)
  case atStart => exact ⟨0, [], by omega, rfl, rfl, ⟨OwnR.nil _ _ _, rfl, fun c hc => by simp at hc⟩, Below.refl _ _⟩
  case round =>
    obtain ⟨k, rs, hk, rfl, hrl, HT, bel⟩ := hrel
    have sz := bel.size
    by_cases hlt : k < n
    · obtain ⟨c, hc⟩ : ∃ c, r[k]? = some c := ⟨r[k]'(by have := HN.out; omega), by rw [List.getElem?_eq_getElem]⟩
      obtain ⟨e0, e1, e2⟩ := HC.out k c hc
      have d0 := (bel.cell (p := ⟨b1, o1 + k * 3, none⟩) hB).trans e0
      have d1 := (bel.cell (p := ⟨b1, o1 + k * 3 + 1, none⟩) hB).trans e1
      have d2 := (bel.cell (p := ⟨b1, o1 + k * 3 + 2, none⟩) hB).trans e2
      have hmem := List.mem_of_getElem? hc
      obtain ⟨i1, _, _⟩ := HIN.out c hmem
      have i2 := i1.below bel
      obtain ⟨hfc, hlc⟩ := HFIT.out c hmem
      have HCK := hide hc
      have hlt' : (k : Int) < n := by omega
      clear hc hmem i1 e0 e1 e2
      go_wp2_with fail
      refine (copyC_any c.e c.n _ c.l _ i2 hlc).mono ?_
      rintro E w2 ⟨v2, rfl, own2, bel2⟩
      unfold cmv
      have sz2 := bel2.size
      obtain ⟨ah, ch, hv2, _, _⟩ := own2.is.shape
      subst hv2
      obtain ⟨w3, hw3, sz3, bel3, own3⟩ := coms_step 32 w2 #[.int .i64 c.e, .int .i64 c.n, .slice ah c.l.length ch] 1 [⟨c.e, c.n, .slice ah c.l.length ch, c.l⟩] rfl rfl (by simp [maxLen])
      obtain ⟨hO, hE, hP⟩ := HT.out
      have bel23 : Below wr.heap.size wr w3 := bel2.trans (bel3.mono (by omega))
      have hO3 := hO.below bel23
      have hP3 := hP.below bel23
      have own23 := (own2.below bel3).rebase (base' := w.heap.size) (by omega)
      have hlk : (rs.length + [(⟨c.e, c.n, .slice ah c.l.length ch, c.l⟩ : Cw)].length) * 40 ≤ 140737488355328 := by rw [List.length_singleton]; omega
      have HE := hide hE
      have HP := hide hP3
      have bel03 : Below w.heap.size w w3 := bel.trans (bel23.mono (by omega))
      clear HT hO hP hP3 hE bel2 bel3 bel23 own2 bel d0 d1 d2 i2
      go_wp2_with (at_builtin; refine wpList_append_coms rfl (.tmp 11) (.tmp 17) 34 rfl 32 w.heap.size Try.underlying34 Try.info32 _ rs rfl hO3 _ _ rfl own3.row (by intro c hc; rw [List.mem_singleton.1 hc]; rfl) hlk (by omega) ?_)
      intro v4 w4 own4 bel4 kp4
      have HT2 : Hid (OwnR 32 w.heap.size w4 v4 (rs ++ [⟨c.e, c.n, .slice ah c.l.length ch, c.l⟩]) ∧ cvs (rs ++ [⟨c.e, c.n, .slice ah c.l.length ch, c.l⟩]) = cvs (r.take (k + 1)) ∧ CopyR w.heap.size w4 (rs ++ [⟨c.e, c.n, .slice ah c.l.length ch, c.l⟩])) :=
        ⟨own4, cvs_snoc HE.out HCK.out rfl, (HP.out.keepT kp4).snoc (own23.keepT kp4 (by decide))⟩
      have bel04 := bel03.trans bel4
      clear own4 kp4 own23 own3 hO3 HE HP bel03 bel4 hlk
      go_wp2
      go_roundw
      case rel => exact ⟨k + 1, _, by omega, by go_num, by rw [List.length_append, hrl]; rfl, HT2, bel04⟩
      case measure => simp [intOf]; omega
    · have hlt' : ¬ (k : Int) < n := by omega
      have HE : Hid (cvs rs = cvs r) := hide (by rw [HT.out.2.1, List.take_of_length_le (by have := HN.out; omega)])
      go_wp2
      go_ret
      exact ⟨_, rfl, rs, HT.out.1, HE.out, HT.out.2.2, bel⟩

/-- What stands behind commits that are lent. -/
def behC : Cw := ⟨-7, 0, .slice none 0 0, []⟩

end Go.Proofs.Ytimmohpnlieefaa

/- The contract of the laws' KeptCommits. -/
namespace Go.Proofs.Ytimmohpnlieefaa
open Go.RowKit
set_option linter.unusedVariables false

theorem row_at {w : World} {b o : Nat} {r : List Cw} (h : ∀ i c, r[i]? = some c → w.cell? ⟨b, o + i * 3, none⟩ = some (.int .i64 c.e) ∧ w.cell? ⟨b, o + i * 3 + 1, none⟩ = some (.int .i64 c.n) ∧ w.cell? ⟨b, o + i * 3 + 2, none⟩ = some c.v) {w' : World} {base : Nat} (hb : Below base w w') (hB : b < base) {k : Nat} {c : Cw} (hc : r[k]? = some c) :
    w'.cell? ⟨b, o + k * 3, none⟩ = some (.int .i64 c.e) ∧ w'.cell? ⟨b, o + k * 3 + 1, none⟩ = some (.int .i64 c.n) ∧ w'.cell? ⟨b, o + k * 3 + 2, none⟩ = some c.v := by
  obtain ⟨e0, e1, e2⟩ := h k c hc
  exact ⟨(hb.cell (p := ⟨b, o + k * 3, none⟩) hB).trans e0, (hb.cell (p := ⟨b, o + k * 3 + 1, none⟩) hB).trans e1, (hb.cell (p := ⟨b, o + k * 3 + 2, none⟩) hB).trans e2⟩

end Go.Proofs.Ytimmohpnlieefaa

/- An append of commits inside a region that draws its order; front and back parts of a list of commits by their values; a variable that is no fault. -/
namespace Go.Proofs.Ytimmohpnlieefaa
open Go.RowKit
set_option linter.unusedVariables false

/-- 'append(out, xs...)' of commits inside a region that draws its order. -/
theorem step_append_coms {P : Program} {ops : Array Oper} {o : Oper} {a : Act} {w : World} {K : Act → World → Prop} {Q : Exit → Act → World → Prop} {E : Prop} (hgd : o.guard = none) (s x : Operand) (t : TypeId)
    (ho : o.op = .call { callee := .builtin .append, args := #[s, x], argTypes := #[t, t] })
    (e : TypeId) (base : Nat) (ht : P.underlying t = some (.slice e)) (hinfo : (P.info? e).map (fun i => (i.zero, i.size, i.bytes)) = some (some (.agg #[.int .i64 0, .int .i64 0, .slice none 0 0]), 3, 40))
    (v : Value) (l : List Cw) (hs : a.eval s = v) (hown : OwnR e base w v l) (vx : Value) (m : List Cw) (hx : a.eval x = vx) (his : RowC w vx m) (hone : ∀ c ∈ m, c.v.oneCell' = true)
    (hlen : (l.length + m.length) * 40 ≤ 140737488355328) (hbase : base ≤ w.heap.size)
    (h : ∀ v' w', OwnR e base w' v' (l ++ m) → Below base w w' → KeepT e w w' → K (a.put o.dst v') w') :
    if Region.wanted o (yielded ops a.tmps) = true then Oper.wp P o a w K Q else E := by
  have hw : Region.wanted o (yielded ops a.tmps) = true := by simp [Region.wanted, hgd]
  rw [if_pos hw]
  obtain ⟨i, hi, hz, hsize, hb⟩ := info_parts hinfo
  have hn : l.length + m.length ≤ 140737488355328 := by omega
  rcases his with ⟨hv, hy⟩ | ⟨ad, cap, hv, h1, h2, hc⟩
  · subst hy
    have hrun := run_append_owned_none (P := P) (w := w) base t o.type e i 3 ht hi v l.length _ hown
    have hk := h v w (by simpa using hown) (Below.refl _ _) (KeepT.refl _ _)
    unfold Oper.wp
    simp [execOp, ho, resolve, invoke, builtin, hs, hx.trans hv, hrun, Result.andThen]
    exact hk
  · refine wp_append_own w s x t ho base e i _ 3 40 ht hi hz hsize hb rfl (by decide) v l.length _ hs hown ad m.length cap (ccells m) (hx.trans hv) (ccells_len m) hc (ccells_cell m hone) (by unfold maxLen; omega) hlen hbase ?_
    intro v' w' ho' hg _
    refine h v' w' (by unfold OwnR; rw [ccells_app, List.length_append]; exact ho') ((Below.refl _ _).grown hg hbase fun k' hk => ?_) (KeepT.of_row hown hg)
    exact (World.ownsRow.lt hown k' hk).1

theorem RowC.front {w : World} {ad : Addr} {n cap : Nat} {l : List Cw} (h : RowC w (.slice (some ad) n cap) l) (p : Nat) (hp : p ≤ l.length) : RowC w (.slice (some ad) p cap) (l.take p) := by
  have hl : (l.take p).length = p := by rw [List.length_take]; omega
  rcases h with ⟨hv, _⟩ | ⟨ad', cap', hv, h1, h2, hc⟩
  · simp at hv
  · simp at hv
    obtain ⟨rfl, rfl, rfl⟩ := hv
    refine .inr ⟨ad, cap, by rw [hl], by omega, h2, fun j u hj => hc j u ?_⟩
    rw [ccells_take, List.getElem?_take] at hj
    split at hj
    · exact hj
    · simp at hj

theorem RowC.back {w : World} {b off n cap : Nat} {l : List Cw} (h : RowC w (.slice (some ⟨b, off, none⟩) n cap) l) (p : Nat) (hp : p < l.length) : RowC w (.slice (some ⟨b, off + p * 3, none⟩) (l.length - p) (cap - p)) (l.drop p) := by
  rcases h with ⟨hv, _⟩ | ⟨ad', cap', hv, h1, h2, hc⟩
  · simp at hv
  · simp at hv
    obtain ⟨rfl, rfl, rfl⟩ := hv
    refine .inr ⟨⟨b, off + p * 3, none⟩, cap - p, by simp, by simp; omega, by omega, fun j u hj => ?_⟩
    rw [ccells_drop, List.getElem?_drop] at hj
    have := hc _ _ hj
    rw [add_at] at this ⊢
    rw [Nat.add_assoc]
    exact this

theorem run_frontC (b off n cap p : Nat) (hp : p ≤ cap) (wx : World) : (Instr.slice 34 (.slice (some ⟨b, off, none⟩) n cap) none (some (.int .i64 p)) none).run Try.prog wx = .ok (.slice (some ⟨b, off, none⟩) p cap) wx := by
  rw [run_slice_h wx 34 (some ⟨b, off, none⟩) n cap Try.elemC .i64 _ (by omega) (by omega), Try.sizeC]
  simp only [Result.andThen, sliced]
  simp [Addr.add]

theorem run_backC (b off n cap p : Nat) (hp : p < n) (hn : n ≤ cap) (wx : World) : (Instr.slice 34 (.slice (some ⟨b, off, none⟩) n cap) (some (.int .i64 p)) none none).run Try.prog wx = .ok (.slice (some ⟨b, off + p * 3, none⟩) (n - p) (cap - p)) wx := by
  rw [run_slice_l wx 34 (some ⟨b, off, none⟩) n cap Try.elemC .i64 _ (by omega) (by omega), Try.sizeC]
  have hne : ¬ cap = p := by omega
  simp [Result.andThen, sliced, hne, add_at]

theorem Try.enters29 : ∀ args w, (callFunc 29 args).run Try.prog w = .ok (.enter 29 args) w := enters_of Try.func29 (by kernel_rfl) rfl
theorem Try.enters70 : ∀ args w, (callFunc 70 args).run Try.prog w = .ok (.enter 70 args) w := enters_of Try.func70 (by kernel_rfl) rfl

/-- 'none := api.Fault{}'. -/
theorem none_step (w : World) (t : TypeId) : ∃ V, w.alloc (.cells #[.int .i64 0, .int .i64 0] t) = V ∧ V.heap.size = w.heap.size + 1 ∧ Below w.heap.size w V ∧ V.heap[w.heap.size]? = some (.cells #[.int .i64 0, .int .i64 0] t (0, 0)) ∧
    (V.cell? ⟨w.heap.size, 0, none⟩ = some (.int .i64 0) ∧ V.cell? ⟨w.heap.size, 1, none⟩ = some (.int .i64 0)) ∧ (V.frozen? ⟨w.heap.size, 0, none⟩ = false ∧ V.frozen? ⟨w.heap.size, 1, none⟩ = false) ∧
    (V.setCell ⟨w.heap.size, 0, none⟩ (.int .i64 0) = V ∧ V.setCell ⟨w.heap.size, 1, none⟩ (.int .i64 0) = V) := by
  obtain ⟨V, h1, h2, h3, h4⟩ := blk_step w #[.int .i64 0, .int .i64 0] t
  exact ⟨V, h1, h2, h3, h4, ⟨blk_cell h4 0 rfl, blk_cell h4 1 rfl⟩, ⟨blk_froz h4 0, blk_froz h4 1⟩, ⟨set_same h4 (j := 0) rfl, set_same h4 (j := 1) rfl⟩⟩

/-- No fault, or one. -/
theorem fol_two (r : List Cm.Cv) (ep nu : Int) : (Cm.Good ep nu r ∧ Cm.fol ep nu 0 r = (0, 0)) ∨ (¬ Cm.Good ep nu r ∧ (Cm.fol ep nu 0 r).1 ≠ 0) := by
  by_cases h : Cm.Good ep nu r
  · have h1 := (Cm.fol_good r ep nu 0).2 h
    exact .inl ⟨h, Prod.ext h1 (Cm.fol_at r ep nu 0 h1)⟩
  · exact .inr ⟨h, fun h1 => h ((Cm.fol_good r ep nu 0).1 h1)⟩

end Go.Proofs.Ytimmohpnlieefaa

/- Lists of commits: the same, of the call's own, apart. -/
namespace Go.Proofs.Ytimmohpnlieefaa
open Go.RowKit
set_option linter.unusedVariables false

/-- Whether two lists of commits are the same. -/
def sameV : List Cm.Cv → List Cm.Cv → Bool
  | [], [] => true
  | c :: r, d :: s => sameC c.e c.n c.l d.e d.n d.l && sameV r s
  | _, _ => false

theorem sameC_iff {e n e' n' : Int} {l l' : List Bm.Ov} : sameC e n l e' n' l' = true ↔ e = e' ∧ n = n' ∧ l = l' := by
  simp [sameC, Bm.sameL_iff]

theorem sameV_iff : ∀ {r s : List Cm.Cv}, sameV r s = true ↔ r = s
  | [], [] => by simp [sameV]
  | [], _ :: _ => by simp [sameV]
  | _ :: _, [] => by simp [sameV]
  | ⟨e, n, l⟩ :: r, ⟨e', n', l'⟩ :: s => by
    simp only [sameV, Bool.and_eq_true, sameC_iff, sameV_iff (r := r) (s := s)]
    simp [and_assoc]

theorem sameV_no {r s : List Cm.Cv} (h : r ≠ s) : sameV r s = false := by
  cases hs : sameV r s
  · rfl
  · exact absurd (sameV_iff.1 hs) h

theorem sameV_self (r : List Cm.Cv) : sameV r r = true := sameV_iff.2 rfl

theorem cvs_length (r : List Cw) : (cvs r).length = r.length := by unfold cvs; rw [List.length_map]

/-- A list's cells, where there are any. -/
theorem isC_cells {w : World} {v : Value} {r : List Cw} (h : IsC w v r) : 0 < r.length → ∃ b1 o1 c1, v = .slice (some ⟨b1, o1, none⟩) r.length c1 ∧ b1 < w.heap.size ∧ ∀ i c, r[i]? = some c → w.cell? ⟨b1, o1 + i * 3, none⟩ = some (.int .i64 c.e) ∧ w.cell? ⟨b1, o1 + i * 3 + 1, none⟩ = some (.int .i64 c.n) ∧ w.cell? ⟨b1, o1 + i * 3 + 2, none⟩ = some c.v := by
  intro hp
  obtain ⟨b1, o1, c1, hv, _, _, hB, hc⟩ := h.1.full hp
  exact ⟨b1, o1, c1, hv, hB, hc⟩

theorem cvs_get (r : List Cw) (k : Nat) : (cvs r)[k]? = (r[k]?).map Cw.c := by unfold cvs; rw [List.getElem?_map]

set_option maxHeartbeats 1000000 in
theorem sameCs_any (va vb : Value) (r s : List Cw) (w : World) (ha : IsC w va r) (hb : IsC w vb s) (fa : FitC r) (fb : FitC s) (hl : r.length ≤ 140737488355328) (hl' : s.length ≤ 140737488355328) :
    Calls Try.prog 16 #[va, vb] w fun E w' => E = .returned (.bool (sameV (cvs r) (cvs s))) ∧ Below w.heap.size w w' := by
  obtain ⟨ans, hans⟩ : ∃ x, sameV (cvs r) (cvs s) = x := ⟨_, rfl⟩
  rw [hans]
  have HA := hide hans
  clear hans
  obtain ⟨a1, p1, hva, _, _⟩ := ha.1.shape
  obtain ⟨a2, p2, hvb, _, _⟩ := hb.1.shape
  by_cases hne : r.length = s.length
  · have C1 := hide (isC_cells ha)
    have C2 := hide (isC_cells hb)
    have I1 := hide ha.2
    have I2 := hide hb.2
    have F1 := hide fa
    have F2 := hide fb
    have HL := hide hne
    have ht : ((r.length : Int) != (s.length : Int)) = false := by simp; omega
    subst hva hvb
    generalize hn : r.length = n at *
    generalize hm : s.length = m at *
    have HN := hide hn
    have HM := hide hm
    clear ha hb fa fb hne hn hm
    go_enter Try.func16, Try.ntmps16
    go_wp2
    go_loopw [5] (fun i wr => ∃ (k : Nat), k ≤ n ∧ i = .int .i64 k ∧ Hid ((cvs r).take k = (cvs s).take k) ∧ Below w.heap.size w wr) (fun i _ => n - (intOf i).toNat)
    case atStart => exact ⟨0, by omega, rfl, hide rfl, Below.refl _ _⟩
    case round =>
      obtain ⟨k, hk, rfl, HT, bel⟩ := hrel
      have sz := bel.size
      by_cases hlt : k < n
      · obtain ⟨b1, o1, c1, hv1, hB1, hc1⟩ := C1.out (by have := HN.out; omega)
        obtain ⟨b2, o2, c2, hv2, hB2, hc2⟩ := C2.out (by have := HM.out; have := HL.out; omega)
        simp only [Value.slice.injEq, true_and] at hv1 hv2
        obtain ⟨rfl, rfl⟩ := hv1
        obtain ⟨rfl, rfl⟩ := hv2
        obtain ⟨c, hc⟩ := at_of (l := r) (k := k) (by have := HN.out; omega)
        obtain ⟨d, hd⟩ := at_of (l := s) (k := k) (by have := HM.out; have := HL.out; omega)
        obtain ⟨x0, x1, x2⟩ := row_at hc1 bel hB1 hc
        obtain ⟨y0, y1, y2⟩ := row_at hc2 bel hB2 hd
        have i1 := (I1.out c (List.mem_of_getElem? hc)).1.below bel
        have i2 := (I2.out d (List.mem_of_getElem? hd)).1.below bel
        have l1 := (F1.out c (List.mem_of_getElem? hc)).2
        have l2 := (F2.out d (List.mem_of_getElem? hd)).2
        have hlt' : (k : Int) < n := by omega
        have hlt2 : (k : Int) < m := by have := HL.out; omega
        have hB1' : b1 < wr.heap.size := by omega
        have hB2' : b2 < wr.heap.size := by omega
        have X := hide (fun W (h1 : IsO W c.v c.l) (h2 : IsO W d.v d.l) => csameK_any c.e c.n _ c.l d.e d.n _ d.l W h1 h2 (by omega) (by omega))
        have HC := hide hc
        have HD := hide hd
        obtain ⟨sm, hsm⟩ : ∃ x, sameC c.e c.n c.l d.e d.n d.l = x := ⟨_, rfl⟩
        rw [hsm] at X
        have HSM := hide hsm
        clear hc hd hc1 hc2 l1 l2 hsm
        cases sm
        · have hfo := HA.out
          rw [sameV_no fun e => by
            have h1 : (cvs r)[k]? = some c.c := by rw [cvs_get, HC.out]; rfl
            rw [e, cvs_get, HD.out] at h1
            have h2 : d.c = c.c := by simpa using h1
            obtain ⟨q1, q2, q3⟩ := cw_ext h2
            have := HSM.out
            rw [sameC_iff.2 ⟨q1.symm, q2.symm, q3.symm⟩] at this
            simp at this] at hfo
          subst hfo
          go_wp2_with fail
          go_region_held3 (fun w' => (w'.cell? ⟨b1, o1 + k * 3, none⟩ = some (.int .i64 c.e) ∧ w'.cell? ⟨b1, o1 + k * 3 + 1, none⟩ = some (.int .i64 c.n) ∧ w'.cell? ⟨b1, o1 + k * 3 + 2, none⟩ = some c.v) ∧ (w'.cell? ⟨b2, o2 + k * 3, none⟩ = some (.int .i64 d.e) ∧ w'.cell? ⟨b2, o2 + k * 3 + 1, none⟩ = some (.int .i64 d.n) ∧ w'.cell? ⟨b2, o2 + k * 3 + 2, none⟩ = some d.v)) (first | exact ⟨⟨x0, x1, x2⟩, ⟨y0, y1, y2⟩⟩ | exact ⟨⟨g0, g1, g2⟩, ⟨h0, h1, h2⟩⟩ | go_keep)
            (first
            | (go_at_call 54; refine (X.out _ (i1.drewN 1) (i2.drewN 1)).mono ?_; rintro E w3 ⟨rfl, bel3'⟩; have bel3 : Below wr.heap.size wr w3 := ((Below.refl _ _).drew).trans bel3'; have g0 := (bel3.cell (p := ⟨b1, o1 + k * 3, none⟩) hB1').trans x0; have g1 := (bel3.cell (p := ⟨b1, o1 + k * 3 + 1, none⟩) hB1').trans x1; have g2 := (bel3.cell (p := ⟨b1, o1 + k * 3 + 2, none⟩) hB1').trans x2; have h0 := (bel3.cell (p := ⟨b2, o2 + k * 3, none⟩) hB2').trans y0; have h1 := (bel3.cell (p := ⟨b2, o2 + k * 3 + 1, none⟩) hB2').trans y1; have h2 := (bel3.cell (p := ⟨b2, o2 + k * 3 + 2, none⟩) hB2').trans y2; clear bel3'))
          have belR := bel.trans (bel3.mono (by omega))
          go_wp2
          go_ret
          exact ⟨rfl, belR⟩
        · have HT2 : Hid ((cvs r).take (k + 1) = (cvs s).take (k + 1)) := hide (by
            obtain ⟨q1, q2, q3⟩ := sameC_iff.1 HSM.out
            rw [List.take_add_one, List.take_add_one, HT.out, cvs_get, cvs_get, HC.out, HD.out]
            simp [Cw.c, q1, q2, q3])
          go_wp2_with fail
          go_region_held3 (fun w' => (w'.cell? ⟨b1, o1 + k * 3, none⟩ = some (.int .i64 c.e) ∧ w'.cell? ⟨b1, o1 + k * 3 + 1, none⟩ = some (.int .i64 c.n) ∧ w'.cell? ⟨b1, o1 + k * 3 + 2, none⟩ = some c.v) ∧ (w'.cell? ⟨b2, o2 + k * 3, none⟩ = some (.int .i64 d.e) ∧ w'.cell? ⟨b2, o2 + k * 3 + 1, none⟩ = some (.int .i64 d.n) ∧ w'.cell? ⟨b2, o2 + k * 3 + 2, none⟩ = some d.v)) (first | exact ⟨⟨x0, x1, x2⟩, ⟨y0, y1, y2⟩⟩ | exact ⟨⟨g0, g1, g2⟩, ⟨h0, h1, h2⟩⟩ | go_keep)
            (first
            | (go_at_call 54; refine (X.out _ (i1.drewN 1) (i2.drewN 1)).mono ?_; rintro E w3 ⟨rfl, bel3'⟩; have bel3 : Below wr.heap.size wr w3 := ((Below.refl _ _).drew).trans bel3'; have g0 := (bel3.cell (p := ⟨b1, o1 + k * 3, none⟩) hB1').trans x0; have g1 := (bel3.cell (p := ⟨b1, o1 + k * 3 + 1, none⟩) hB1').trans x1; have g2 := (bel3.cell (p := ⟨b1, o1 + k * 3 + 2, none⟩) hB1').trans x2; have h0 := (bel3.cell (p := ⟨b2, o2 + k * 3, none⟩) hB2').trans y0; have h1 := (bel3.cell (p := ⟨b2, o2 + k * 3 + 1, none⟩) hB2').trans y1; have h2 := (bel3.cell (p := ⟨b2, o2 + k * 3 + 2, none⟩) hB2').trans y2; clear bel3'))
          have belR := bel.trans (bel3.mono (by omega))
          clear x0 x1 x2 y0 y1 y2 g0 g1 g2 h0 h1 h2 i1 i2 bel3 bel
          go_wp2
          go_roundw
          case rel => exact ⟨k + 1, by omega, by go_num, HT2, belR⟩
          case measure => simp [intOf]; omega
      · have hlt' : ¬ (k : Int) < n := by omega
        have hfo := HA.out
        rw [sameV_iff.2 (by
          have h1 := HT.out
          rw [List.take_of_length_le (by rw [cvs_length, HN.out]; omega), List.take_of_length_le (by rw [cvs_length, HM.out]; have := HL.out; omega)] at h1
          exact h1)] at hfo
        subst hfo
        clear HA
        go_wp2
        go_ret
        exact ⟨rfl, bel⟩
  · have ht : ((r.length : Int) != (s.length : Int)) = true := by simp; omega
    have hfo := HA.out
    rw [sameV_no fun e => hne (by rw [← cvs_length r, ← cvs_length s, e])] at hfo
    subst hfo hva hvb
    clear hne HA
    go_enter Try.func16, Try.ntmps16
    go_wp2
    go_ret
    exact ⟨rfl, Below.refl _ _⟩

/-- Commits whose ops lie apart. -/
def ApC (cs : List Cw) : Prop := ∀ (i j : Nat) (c d : Cw), i ≠ j → cs[i]? = some c → cs[j]? = some d → c.v.ownBlock = none ∨ c.v.ownBlock ≠ d.v.ownBlock

theorem OwnR.rebase {e base base' : Nat} {w : World} {v : Value} {l : List Cw} (h : OwnR e base w v l) (hb : base' ≤ base) : OwnR e base' w v l := by
  refine ⟨h.1, ?_⟩
  rcases h.2 with h | ⟨g, cap, cur, hv, h1, r⟩
  · exact .inl h
  · exact .inr ⟨g, cap, cur, hv, by omega, r⟩

theorem row_out {e base size n : Nat} {w w' : World} {v : Value} {xs : List Value} {F : Nat → Prop} (h : w.ownsRow base e size v n xs) (ho : Out F w w') (hF : ∀ i, F i → i < base) : w'.ownsRow base e size v n xs :=
  row_agree h fun g hg => ho.block g (World.ownsRow.lt h g hg).2 fun hf => by have := hF g hf; have := (World.ownsRow.lt h g hg).1; omega

theorem row_rebase {e base base' size n : Nat} {w : World} {v : Value} {xs : List Value} (h : w.ownsRow base e size v n xs) (hb : base' ≤ base) : w.ownsRow base' e size v n xs := by
  refine ⟨h.1, ?_⟩
  rcases h.2 with k | ⟨g, cap, cur, hv, h1, r⟩
  · exact .inl k
  · exact .inr ⟨g, cap, cur, hv, Nat.le_trans hb h1, r⟩

theorem apc_snoc {cs : List Cw} {c : Cw} {N : Nat} (h : ApC cs) (h1 : ∀ d ∈ cs, ∀ b, d.v.ownBlock = some b → b < N) (h2 : ∀ b, c.v.ownBlock = some b → N ≤ b) : ApC (cs ++ [c]) := by
  intro i j x y hij hx hy
  have hix := (List.getElem?_eq_some_iff.1 hx).1
  have hjx := (List.getElem?_eq_some_iff.1 hy).1
  rw [List.length_append, List.length_singleton] at hix hjx
  have key : ∀ u v : Value, (∀ b d, u.ownBlock = some b → v.ownBlock = some d → b ≠ d) → u.ownBlock = none ∨ u.ownBlock ≠ v.ownBlock := by
    intro u v h
    cases hu : u.ownBlock with
    | none => exact .inl rfl
    | some b => exact .inr fun e => h b b hu e.symm rfl
  by_cases hi : i < cs.length
  · rw [List.getElem?_append_left hi] at hx
    by_cases hj : j < cs.length
    · rw [List.getElem?_append_left hj] at hy
      exact h i j x y hij hx hy
    · have : j = cs.length := by omega
      subst this
      simp at hy
      subst hy
      exact key _ _ fun b d hb hd => by have := h1 x (List.mem_of_getElem? hx) b hb; have := h2 d hd; omega
  · have : i = cs.length := by omega
    subst this
    simp at hx
    subst hx
    rw [List.getElem?_append_left (by omega)] at hy
    exact key _ _ fun b d hb hd => by have := h2 b hb; have := h1 y (List.mem_of_getElem? hy) d hd; omega

end Go.Proofs.Ytimmohpnlieefaa

/- The contracts of the document's reader: Small, Bytes. -/
namespace Go.Proofs.Ytimmohpnlieefaa
open Go.RowKit
set_option linter.unusedVariables false

theorem Try.elemB : Try.prog.underlying 37 = some (.slice (Try.prog.elem 37)) := by kernel_rfl
theorem Try.sizeE (wx : World) : (sizeOf (Try.prog.elem 37)).run Try.prog wx = .ok 1 wx := by kernel_rfl

/-- A reader in block g: of the bytes bs (they lie where w0 has them), at a place, bad or not. -/
def Rdr (w0 w : World) (g : Nat) (vb : Value) (bs : List Int) (a : Nat) (bad : Bool) : Prop :=
  Is .u8 w0 vb bs ∧ w0.heap.size ≤ g ∧ Below w0.heap.size w0 w ∧ w.heap[g]? = some (.cells #[vb, .int .i64 a, .bool bad] 117 (0, 0)) ∧ a ≤ bs.length

theorem Rdr.lt {w0 w : World} {g a : Nat} {vb : Value} {bs : List Int} {bad : Bool} (h : Rdr w0 w g vb bs a bad) : g < w.heap.size := by
  rcases Nat.lt_or_ge g w.heap.size with h' | h'
  · exact h'
  · have := h.2.2.2.1
    simp [Array.getElem?_eq_none h'] at this

theorem Rdr.is {w0 w : World} {g a : Nat} {vb : Value} {bs : List Int} {bad : Bool} (h : Rdr w0 w g vb bs a bad) : Is .u8 w vb bs := h.1.below h.2.2.1

theorem Rdr.below {w0 w w' : World} {g a : Nat} {vb : Value} {bs : List Int} {bad : Bool} (h : Rdr w0 w g vb bs a bad) (hb : Below w.heap.size w w') : Rdr w0 w' g vb bs a bad := by
  have hl := h.lt
  have hs := h.2.2.1.size
  exact ⟨h.1, h.2.1, h.2.2.1.trans (hb.mono hs), (hb.block g hl).trans h.2.2.2.1, h.2.2.2.2⟩

theorem Rdr.cell0 {w0 w : World} {g a : Nat} {vb : Value} {bs : List Int} {bad : Bool} (h : Rdr w0 w g vb bs a bad) : w.cell? ⟨g, 0, none⟩ = some vb := by simp [World.cell?, h.2.2.2.1]
theorem Rdr.cell1 {w0 w : World} {g a : Nat} {vb : Value} {bs : List Int} {bad : Bool} (h : Rdr w0 w g vb bs a bad) : w.cell? ⟨g, 1, none⟩ = some (.int .i64 a) := by simp [World.cell?, h.2.2.2.1]
theorem Rdr.cell2 {w0 w : World} {g a : Nat} {vb : Value} {bs : List Int} {bad : Bool} (h : Rdr w0 w g vb bs a bad) : w.cell? ⟨g, 2, none⟩ = some (.bool bad) := by simp [World.cell?, h.2.2.2.1]
theorem Rdr.froz {w0 w : World} {g a : Nat} {vb : Value} {bs : List Int} {bad : Bool} (h : Rdr w0 w g vb bs a bad) (j : Nat) : w.frozen? ⟨g, j, none⟩ = false := by simp [World.frozen?, h.2.2.2.1]

theorem Rdr.put1 {w0 w : World} {g a : Nat} {vb : Value} {bs : List Int} {bad : Bool} (h : Rdr w0 w g vb bs a bad) (a' : Nat) (ha : a' ≤ bs.length) : Rdr w0 (w.setCell ⟨g, 1, none⟩ (.int .i64 a')) g vb bs a' bad :=
  ⟨h.1, h.2.1, h.2.2.1.setCell (p := ⟨g, 1, none⟩) h.2.1 _, by rw [set_cells h.2.2.2.1]; rfl, ha⟩
theorem Rdr.put2 {w0 w : World} {g a : Nat} {vb : Value} {bs : List Int} {bad : Bool} (h : Rdr w0 w g vb bs a bad) (bad' : Bool) : Rdr w0 (w.setCell ⟨g, 2, none⟩ (.bool bad')) g vb bs a bad' :=
  ⟨h.1, h.2.1, h.2.2.1.setCell (p := ⟨g, 2, none⟩) h.2.1 _, by rw [set_cells h.2.2.2.1]; rfl, h.2.2.2.2⟩

/-- What a reader's Small does. -/
def SStep (bs : List Int) (most a : Nat) (bad : Bool) (u a' : Nat) (bad' : Bool) : Prop :=
  (bad = true ∧ bad' = true ∧ u = 0 ∧ a' = a) ∨ (bad = false ∧ bad' = true ∧ u = 0 ∧ a' = a ∧ ∀ x : Nat, x ≤ most → ¬ Vm.enc x <+: bs.drop a) ∨ (bad = false ∧ bad' = false ∧ u ≤ most ∧ Vm.enc u <+: bs.drop a ∧ a' = a + Vm.sz u)

/-- What a reader's Bytes does. -/
def BStep (bs : List Int) (n a : Nat) (bad : Bool) (zs : List Int) (a' : Nat) (bad' : Bool) : Prop :=
  ((bad = true ∨ bs.length - a < n) ∧ bad' = true ∧ zs = [] ∧ a' = a) ∨ (bad = false ∧ n ≤ bs.length - a ∧ bad' = false ∧ zs = (bs.drop a).take n ∧ a' = a + n)

set_option maxHeartbeats 400000 in
theorem rsmall_any (w0 w : World) (g : Nat) (vb : Value) (bs : List Int) (a : Nat) (bad : Bool) (most : Nat) (h : Rdr w0 w g vb bs a bad) (hl : bs.length ≤ 150000000000000) (hm : most < 9223372036854775808) :
    Calls Try.prog 85 #[.pointer (some ⟨g, 0, none⟩), .int .i64 most] w fun E w' => ∃ (u a' : Nat) (bad' : Bool), E = .returned (.int .i64 u) ∧ Rdr w0 w' g vb bs a' bad' ∧ w.grownBy w' (some g) ∧ SStep bs most a bad u a' bad' := by
  have c0 := h.cell0
  have c1 := h.cell1
  have c2 := h.cell2
  have ha := h.2.2.2.2
  cases bad
  · obtain ⟨vs, hsl, isl⟩ := h.is.slice_l Try.elemB Try.sizeE a ha
    obtain ⟨u, i, e, hS⟩ := sres_is (bs.drop a) most
    have hdl : (bs.drop a).length = bs.length - a := by rw [List.length_drop]
    rcases hS with ⟨hR, h1, h2, he⟩ | ⟨hu, hi, he, x, n, f, hR, hcase⟩
    · have hbd := Vm.res_bounds hR
      obtain ⟨un, rfl⟩ : ∃ un : Nat, u = un := ⟨u.toNat, by omega⟩
      obtain ⟨n, rfl⟩ : ∃ n : Nat, i = n := ⟨i.toNat, by omega⟩
      have hG : SStep bs most a false un (a + n) false := by
        rcases hR with ⟨x, hx, hp, h3, h4, _⟩ | ⟨_, _, _, h5⟩
        · have : x = un := by omega
          subst this
          exact .inr (.inr ⟨rfl, rfl, by omega, hp, by omega⟩)
        · simp at h5
      have hS : SRes (bs.drop a) most un n 0 := .inl ⟨hR, h1, h2, rfl⟩
      have HG := hide hG
      have HS := hide hS
      have HH := hide h
      have hn1 : a + n ≤ bs.length := by omega
      have hn2 : n ≤ 10 := by omega
      clear hS hG hR hbd h he h1 h2
      go_enter Try.func85, Try.ntmps85
      go_wp2_with fail
      go_region_with (go_at_call 102; refine (smallR_any _ (bs.drop a) most un n 0 _ (isl.drewN 1) (by omega) (by omega) (by omega) HS.out).mono ?_; rintro E w1 ⟨rfl, bel1'⟩; have bel1 : Below w.heap.size w w1 := ((Below.refl _ _).drew).trans bel1'; have hr := HH.out.below bel1; have k1 := hr.cell1; have f1 := hr.froz 1; have HR := hide hr; clear hr bel1')
      all_goals
        clear isl hsl
        go_wp2
        go_ret
        exact ⟨un, a + n, false, rfl, HR.out.put1 (a + n) hn1, grown_trans (grown_of_below bel1 _) (grown_setCell _ _ _), HG.out⟩
    · have hG : SStep bs most a false 0 a true := by
        refine .inr (.inl ⟨rfl, rfl, rfl, rfl, fun y hy hp => ?_⟩)
        have := Vm.res_good hR (u := y) (by omega) hp
        omega
      have hS : SRes (bs.drop a) most 0 0 5 := .inr ⟨rfl, rfl, rfl, x, n, f, hR, hcase⟩
      have HG := hide hG
      have HS := hide hS
      have HH := hide h
      clear hS hG hR h he hcase hu hi
      go_enter Try.func85, Try.ntmps85
      go_wp2_with fail
      go_region_with (go_at_call 102; refine (smallR_any _ (bs.drop a) most 0 0 5 _ (isl.drewN 1) (by omega) (by omega) (by omega) HS.out).mono ?_; rintro E w1 ⟨rfl, bel1'⟩; have bel1 : Below w.heap.size w w1 := ((Below.refl _ _).drew).trans bel1'; have hr := HH.out.below bel1; have k1 := hr.cell2; have f1 := hr.froz 2; have HR := hide hr; clear hr bel1')
      all_goals
        clear isl hsl
        go_wp2
        go_ret
        exact ⟨0, a, true, rfl, HR.out.put2 true, grown_trans (grown_of_below bel1 _) (grown_setCell _ _ _), HG.out⟩
  · have HH := hide h
    clear h
    go_enter Try.func85, Try.ntmps85
    go_wp2
    go_ret
    exact ⟨0, a, true, rfl, HH.out, World.grownBy.refl _ _, .inl ⟨rfl, rfl, rfl, rfl⟩⟩

set_option maxHeartbeats 400000 in
theorem rbytes_any (w0 w : World) (g : Nat) (vb : Value) (bs : List Int) (a : Nat) (bad : Bool) (n : Nat) (h : Rdr w0 w g vb bs a bad) (hl : bs.length ≤ 150000000000000) (hm : n < 9223372036854775808) :
    Calls Try.prog 84 #[.pointer (some ⟨g, 0, none⟩), .int .i64 n] w fun E w' => ∃ (v : Value) (zs : List Int) (a' : Nat) (bad' : Bool), E = .returned v ∧ Own .u8 5 w.heap.size w' v zs ∧ Rdr w0 w' g vb bs a' bad' ∧ w.grownBy w' (some g) ∧ BStep bs n a bad zs a' bad' := by
  have c0 := h.cell0
  have c1 := h.cell1
  have c2 := h.cell2
  have f1 := h.froz 1
  have f2 := h.froz 2
  have ha := h.2.2.2.2
  have hgl := h.lt
  have hlen := h.is.len_run Try.elemB
  cases bad
  · by_cases hn : n ≤ bs.length - a
    · obtain ⟨vs, hsl, isl⟩ := h.is.slice_lh Try.elemB Try.sizeE a (a + n) (by omega) (by omega)
      rw [show a + n - a = n by omega] at isl
      have hsl2 : ∀ wx, (Instr.slice 37 vb (some (.int .i64 (a : Int))) (some (.int .i64 ((a : Int) + (n : Int)))) none).run Try.prog wx = .ok vs wx := by simpa using hsl
      have hwr : IntKind.i64.wrap ((a : Int) + (n : Int)) = (a : Int) + n := wrap_i64_small _ (by omega) (by omega)
      clear hsl
      have hge : ¬ (bs.length : Int) - a < n := by omega
      have HH := hide h
      have hlt : ((bs.drop a).take n).length = n := by rw [List.length_take, List.length_drop]; omega
      clear h
      go_enter Try.func84, Try.ntmps84
      go_wp2_with fail
      go_quiet (fail)
      have is2 : ∀ m, Is .u8 (w.drewN m) vs ((bs.drop a).take n) := fun m => isl.drewN m
      go_wp2_with fail
      go_region_law (refine step_append_is rfl (.tmp 27) (.tmp 42) 37 rfl .u8 5 w.heap.size 1 Try.underlying37 Try.info5 (by decide) _ [] (by simp [Act.eval, Act.put]) (Own.nil _ _ _ _) _ ((bs.drop a).take n) (by simp [Act.eval, Act.put]) (is2 _) (by simp; omega) (by simp) ?_; intro v3 w3 own3 bel3' _; have bel3 : Below w.heap.size w w3 := (below_drewN (Below.refl _ _) _).trans bel3'; have hr := HH.out.below bel3; have k1 := hr.cell1; have g1 := hr.froz 1; have HR := hide hr; clear hr bel3')
      all_goals
        rw [List.nil_append] at own3
        have own4 := own3.kept (grown_setCell w3 ⟨g, 1, none⟩ (.int .i64 ((a + n : Nat) : Int))) (by
          cases hv : v3.ownBlock with
          | none => exact .inl rfl
          | some b => exact .inr (fun e => by have := own3.block b hv; simp at e; omega))
        clear is2 isl hsl2
        go_wp2
        go_ret
        exact ⟨_, _, a + n, false, rfl, own4, HR.out.put1 (a + n) (by omega), grown_trans (grown_of_below bel3 _) (grown_setCell _ _ _), .inr ⟨rfl, hn, rfl, rfl, rfl⟩⟩
    · have hge : (bs.length : Int) - a < n := by omega
      have HH := hide h
      clear h
      go_enter Try.func84, Try.ntmps84
      go_wp2_with fail
      go_quiet (fail)
      go_wp2
      go_ret
      exact ⟨_, [], a, true, rfl, Own.nil _ _ _ _, (HH.out.below (below_drewN (Below.refl _ _) nq)).put2 true, grown_trans (grown_drewN _ _ _) (grown_setCell _ _ _), .inl ⟨.inr (by omega), rfl, rfl, rfl⟩⟩
  · have HH := hide h
    clear h
    go_enter Try.func84, Try.ntmps84
    go_wp2_with fail
    go_quiet (fail)
    go_wp2
    go_ret
    exact ⟨_, [], a, true, rfl, Own.nil _ _ _ _, (HH.out.below (below_drewN (Below.refl _ _) nq)).put2 true, grown_trans (grown_drewN _ _ _) (grown_setCell _ _ _), .inl ⟨.inl rfl, rfl, rfl, rfl⟩⟩

end Go.Proofs.Ytimmohpnlieefaa

/- The contract of the document's epoch; what At comes to. -/
namespace Go.Proofs.Ytimmohpnlieefaa
open Go.RowKit
set_option linter.unusedVariables false

/-- What At comes to. -/
def atE (l : List Sm.S) (en n : Int) : Int := if Sm.chk l en = 0 then (if n < 0 ∨ en < n then 2 else 0) else Sm.chk l en
def atV (l : List Sm.S) (en n : Int) : Int := if atE l en n = 0 then Sm.epo n 0 l else 0

theorem atE_five {l : List Sm.S} {en n : Int} (h : Sm.chk l en ≠ 0) : Sm.chk l en = 5 ∧ atE l en n = 5 ∧ atV l en n = 0 := by
  have h5 : Sm.chk l en = 5 := Sm.chk_no fun k => h (Sm.chk_ok k)
  have : atE l en n = 5 := by unfold atE; rw [if_neg h, h5]
  exact ⟨h5, this, by unfold atV; rw [this]; rfl⟩
theorem atE_two {l : List Sm.S} {en n : Int} (h : Sm.chk l en = 0) (hn : n < 0 ∨ en < n) : atE l en n = 2 ∧ atV l en n = 0 := by
  have : atE l en n = 2 := by unfold atE; rw [if_pos h, if_pos hn]
  exact ⟨this, by unfold atV; rw [this]; rfl⟩
theorem atE_ok {l : List Sm.S} {en n : Int} (h : Sm.chk l en = 0) (hn : ¬ (n < 0 ∨ en < n)) : atE l en n = 0 ∧ atV l en n = Sm.epo n 0 l := by
  have : atE l en n = 0 := by unfold atE; rw [if_pos h, if_neg hn]
  exact ⟨this, by unfold atV; rw [if_pos this]⟩

end Go.Proofs.Ytimmohpnlieefaa

/- Appends to a row of an object's own, told as one fact of the operation, with where the new row lies. No program. -/
namespace Go.Proofs.Ytimmohpnlieefaa
open Go.RowKit
set_option linter.unusedVariables false

section
variable {P : Program} {w : World}

/-- 'append(out, xs...)' of integers. -/
theorem run_append_is_at (t ty : TypeId) (k : IntKind) (e : TypeId) (base bytes : Nat) (ht : P.underlying t = some (.slice e)) (hinfo : (P.info? e).map (fun i => (i.zero, i.size, i.bytes)) = some (some (.int k 0), 1, bytes)) (hby : 0 < bytes)
    (v : Value) (zs : List Int) (hown : Own k e base w v zs) (vx : Value) (ys : List Int) (his : Is k w vx ys) (hlen : (zs.length + ys.length) * bytes ≤ 140737488355328) (hbase : base ≤ w.heap.size) :
    ∃ v' w', (Builtin.append_ #[t, t] ty #[v, vx]).run P w = .ok v' w' ∧ Own k e base w' v' (zs ++ ys) ∧ w.grownBy w' v.ownBlock ∧ (v'.ownBlock = v.ownBlock ∨ v'.ownBlock = some w.heap.size) := by
  obtain ⟨i, hi, hz, hsize, hb⟩ := info_parts hinfo
  have hn : zs.length + ys.length ≤ 140737488355328 := Nat.le_trans (Nat.le_mul_of_pos_right _ hby) hlen
  have hwf : ∀ z ∈ zs ++ ys, (Lit.int k z).wf = true := by
    intro z hz
    rcases List.mem_append.1 hz with hz | hz
    · exact hown.1 z hz
    · exact his.1 z hz
  rcases his.2 with ⟨hv, hy⟩ | ⟨ad, cap, hv, h1, h2, hc⟩
  · subst hy hv
    have hrun := run_append_owned_none (P := P) (w := w) base t ty e i 1 ht hi v zs.length _ hown.2
    exact ⟨v, w, hrun, ⟨hwf, by simpa using hown.2⟩, World.grownBy.refl _ _, .inl rfl⟩
  · subst hv
    obtain ⟨v', w', hr, h3, h4, _, h5⟩ := run_append_own_at (P := P) w base t ty e i (.int k 0) 1 bytes ht hi hz hsize hb rfl (by decide) v zs.length _ hown.2 ad ys.length cap (ys.map (Value.int k)) (by simp) (by
      intro j u hj
      rw [List.getElem?_map, Option.map_eq_some_iff] at hj
      obtain ⟨z, hz, rfl⟩ := hj
      obtain ⟨hj, hz⟩ := List.getElem?_eq_some_iff.1 hz
      rw [hc j hj, List.getD_eq_getElem?_getD, List.getElem?_eq_getElem hj, hz]
      rfl) (ints_oneCell k ys) (by unfold maxLen; omega) hlen hbase
    exact ⟨v', w', hr, ⟨hwf, by simpa [List.map_append] using h3⟩, h4, h5⟩

/-- 'append(out, xs...)' of anything. -/
theorem run_append_rows_at {α : Type} (t ty : TypeId) (f : α → List Value) (k bytes : Nat) (hk : ∀ a, (f a).length = k) (h0 : 0 < k) (hb0 : 0 < bytes) (z : Value) (hzk : z.cells.size = k)
    (e : TypeId) (base : Nat) (ht : P.underlying t = some (.slice e)) (hinfo : (P.info? e).map (fun i => (i.zero, i.size, i.bytes)) = some (some z, k, bytes))
    (v : Value) (l : List α) (hown : OwnG f k e base w v l) (vx : Value) (m : List α) (his : RowG f w vx m) (hone : ∀ u ∈ gcells f m, u.oneCell' = true)
    (hlen : (l.length + m.length) * bytes ≤ 140737488355328) (hbase : base ≤ w.heap.size) :
    ∃ v' w', (Builtin.append_ #[t, t] ty #[v, vx]).run P w = .ok v' w' ∧ OwnG f k e base w' v' (l ++ m) ∧ w.grownBy w' v.ownBlock ∧ (v'.ownBlock = v.ownBlock ∨ v'.ownBlock = some w.heap.size) := by
  obtain ⟨i, hi, hz, hsize, hb⟩ := info_parts hinfo
  have hn : l.length + m.length ≤ 140737488355328 := Nat.le_trans (Nat.le_mul_of_pos_right _ hb0) hlen
  rcases his with ⟨hv, hy⟩ | ⟨ad, cap, hv, h1, h2, hc⟩
  · subst hy hv
    have hrun := run_append_owned_none (P := P) (w := w) base t ty e i k ht hi v l.length _ hown
    exact ⟨v, w, hrun, by simpa using hown, World.grownBy.refl _ _, .inl rfl⟩
  · subst hv
    obtain ⟨v', w', hr, h3, h4, _, h5⟩ := run_append_own_at (P := P) w base t ty e i z k bytes ht hi hz hsize hb hzk h0 v l.length _ hown ad m.length cap (gcells f m) (gcells_len hk m) hc hone (by unfold maxLen; omega) hlen hbase
    exact ⟨v', w', hr, by unfold OwnG; rw [gcells_app, List.length_append]; exact h3, h4, h5⟩

end

/-- A row's front: 'v[:p]'. -/
theorem own_cut {w : World} {base e size g n cap : Nat} {xs : List Value} (h : w.ownsRow base e size (.slice (some ⟨g, 0, none⟩) n cap) n xs) (m : Nat) (hm : m ≤ n) : w.ownsRow base e size (.slice (some ⟨g, 0, none⟩) m cap) m (xs.take (m * size)) := by
  obtain ⟨h1, h2⟩ := h
  have hle : m * size ≤ n * size := Nat.mul_le_mul_right _ hm
  refine ⟨by rw [List.length_take]; omega, ?_⟩
  rcases h2 with ⟨h', _⟩ | ⟨g', cap', cur, h', hb, hg, hnc, hcm, hcs, htake⟩
  · simp at h'
  · simp only [Value.slice.injEq, Option.some.injEq, Addr.mk.injEq, and_true, true_and] at h'
    obtain ⟨rfl, rfl⟩ := h'
    refine .inr ⟨g, cap, cur, rfl, hb, hg, by omega, hcm, hcs, ?_⟩
    rw [← htake, List.take_take]
    congr 1
    omega

theorem Own.agree {k : IntKind} {e : TypeId} {base : Nat} {w w' : World} {v : Value} {zs : List Int} (h : Own k e base w v zs) (hb : ∀ b, v.ownBlock = some b → w'.heap[b]? = w.heap[b]?) : Own k e base w' v zs := ⟨h.1, row_agree h.2 hb⟩

theorem Own.type {k : IntKind} {e base : Nat} {w : World} {v : Value} {zs : List Int} (h : Own k e base w v zs) {g : Nat} (hg : v.ownBlock = some g) : ∃ cs, w.heap[g]? = some (.cells cs e (0, 0)) := by
  rcases h.2.2 with ⟨rfl, _⟩ | ⟨g', cap, cur, rfl, _, hh, _⟩
  · simp [Value.ownBlock] at hg
  · simp [Value.ownBlock] at hg
    subst hg
    exact ⟨_, hh⟩

/-- 'v[:p]' of an own row of integers: an own row. -/
theorem Own.slice_h {P : Program} {k : IntKind} {e base : Nat} {w : World} {v : Value} {zs : List Int} (h : Own k e base w v zs) {t : TypeId} (ht : P.underlying t = some (.slice (P.elem t))) (hs : ∀ wx, (sizeOf (P.elem t)).run P wx = .ok 1 wx) (p : Nat) (hp : p ≤ zs.length) :
    ∃ vs, (∀ wx, (Instr.slice t v none (some (.int .i64 p)) none).run P wx = .ok vs wx) ∧ Own k e base w vs (zs.take p) ∧ (∀ b, vs.ownBlock = some b → v.ownBlock = some b) := by
  have hwf : ∀ z ∈ zs.take p, (Lit.int k z).wf = true := fun z hz => h.1 z (List.mem_of_mem_take hz)
  have hl : (zs.take p).length = p := by rw [List.length_take]; omega
  rcases h.2.2 with ⟨rfl, hn⟩ | ⟨g, cap, cur, rfl, hb, hg, hnc, hcm, hcs, htake⟩
  · obtain rfl : p = 0 := by omega
    refine ⟨.slice none 0 0, fun wx => ?_, ⟨hwf, by rw [hl]; simpa using World.ownsRow_nil w base e 1⟩, fun b hb => hb⟩
    rw [run_slice_h wx t none 0 0 ht .i64 _ (by omega) (by omega)]
    simp [Result.andThen, sliced, hs]
  · refine ⟨.slice (some ⟨g, 0, none⟩) p cap, fun wx => ?_, ⟨hwf, ?_⟩, fun b hb => hb⟩
    · rw [run_slice_h wx t _ zs.length cap ht .i64 _ (by omega) (by omega)]
      simp [Result.andThen, sliced, hs, Addr.add]
    · have := own_cut h.2 p hp
      rw [hl, List.map_take]
      simpa using this

section
variable {P : Program} {w : World} {ops : Array Oper} {rest : List Oper} {o : Oper} {a : Act} {Q : Exit → Act → World → Prop}

/-- An append whose answer is known. -/
theorem wpList_append_at (hgd : o.guard = none) (s x : Operand) (t : TypeId) (ho : o.op = .call { callee := .builtin .append, args := #[s, x], argTypes := #[t, t] })
    (v vx : Value) (hs : a.eval s = v) (hx : a.eval x = vx) {R : Value → World → Prop} (hrun : ∀ ty, ∃ v' w', (Builtin.append_ #[t, t] ty #[v, vx]).run P w = .ok v' w' ∧ R v' w')
    (h : ∀ v' w', R v' w' → wpList P ops Q rest (a.put o.dst v') w') : wpList P ops Q (o :: rest) a w := by
  refine wpList_plain hgd fun K hK => ?_
  obtain ⟨v', w', hr, hR⟩ := hrun o.type
  unfold Oper.wp execOp
  simp only [ho, resolve, invoke, builtin, Sem.run_bind, Sem.run_pure, Result.andThen_ok, List.map_toArray, List.map_cons, List.map_nil, hs, hx, hr]
  exact hK _ _ (h v' w' hR)

theorem step_append_at {K : Act → World → Prop} {E : Prop} (hgd : o.guard = none) (s x : Operand) (t : TypeId) (ho : o.op = .call { callee := .builtin .append, args := #[s, x], argTypes := #[t, t] })
    (v vx : Value) (hs : a.eval s = v) (hx : a.eval x = vx) {R : Value → World → Prop} (hrun : ∀ ty, ∃ v' w', (Builtin.append_ #[t, t] ty #[v, vx]).run P w = .ok v' w' ∧ R v' w')
    (h : ∀ v' w', R v' w' → K (a.put o.dst v') w') : if Region.wanted o (yielded ops a.tmps) = true then Oper.wp P o a w K Q else E := by
  have hw : Region.wanted o (yielded ops a.tmps) = true := by simp [Region.wanted, hgd]
  rw [if_pos hw]
  obtain ⟨v', w', hr, hR⟩ := hrun o.type
  unfold Oper.wp execOp
  simp only [ho, resolve, invoke, builtin, Sem.run_bind, Sem.run_pure, Result.andThen_ok, List.map_toArray, List.map_cons, List.map_nil, hs, hx, hr]
  exact h v' w' hR

/-- A call inside a region that draws its order. -/
theorem call_at {K : Act → World → Prop} {E : Prop} (hgd : o.guard = none) (f : FuncId) (args : Array Operand) (ts : Array TypeId)
    (ho : o.op = .call { callee := .value (.func f), args := args, argTypes := ts }) (hent : ∀ args w, (callFunc f args).run P w = .ok (.enter f args) w) (vs : Array Value) (hvs : args.map a.eval = vs)
    {R : Value → World → Prop} (hc : Calls P f vs w fun e w' => ∃ v, e = .returned v ∧ R v w') (h : ∀ v w', R v w' → K (a.put o.dst v) w') :
    if Region.wanted o (yielded ops a.tmps) = true then Oper.wp P o a w K Q else E := by
  have hw : Region.wanted o (yielded ops a.tmps) = true := by simp [Region.wanted, hgd]
  rw [if_pos hw]
  unfold Oper.wp
  simp only [execOp, ho, resolve, invoke, Sem.run_bind, hvs]
  simp only [Act.eval, Deferred.ofValue, Sem.run_pure, Result.andThen_ok, Array.empty_append, hent]
  rw [Oper.upon_enter]
  refine hc.mono ?_
  rintro e w' ⟨v, rfl, hr⟩
  exact h v w' hr

end

/-- A struct of four cells, made and stored. -/
theorem new_four (w : World) (t : TypeId) (x y z u a b c d : Value) : ∃ V, (((((w.alloc (.cells #[x, y, z, u] t)).setCell ⟨w.heap.size, 0, none⟩ a).setCell ⟨w.heap.size, 1, none⟩ b).setCell ⟨w.heap.size, 2, none⟩ c).setCell ⟨w.heap.size, 3, none⟩ d = V) ∧ w.alloc (.cells #[a, b, c, d] t) = V ∧ V.heap.size = w.heap.size + 1 ∧ Below w.heap.size w V ∧ V.heap[w.heap.size]? = some (.cells #[a, b, c, d] t (0, 0)) ∧
    V.cell? ⟨w.heap.size, 0, none⟩ = some a ∧ V.cell? ⟨w.heap.size, 1, none⟩ = some b ∧ V.cell? ⟨w.heap.size, 2, none⟩ = some c ∧ V.cell? ⟨w.heap.size, 3, none⟩ = some d := by
  obtain ⟨V, h1, h2, h3, h4⟩ := blk_step w #[a, b, c, d] t
  refine ⟨V, ?_, h1, h2, h3, h4, blk_cell h4 0 rfl, blk_cell h4 1 rfl, blk_cell h4 2 rfl, blk_cell h4 3 rfl⟩
  rw [← h1]
  simp [go_sem]

theorem wrap64s (z : Int) (h0 : -9223372036854775808 ≤ z) (h1 : z < 9223372036854775808) : IntKind.i64.wrap z = z := by
  unfold IntKind.wrap
  simp [IntKind.bits, IntKind.signed]
  omega

end Go.Proofs.Ytimmohpnlieefaa

/- The contracts of sort.Search, of starts' begun, checkPlace, At and Trimmed, and of the copy that slices.Clone makes of starts. -/
namespace Go.Proofs.Ytimmohpnlieefaa
open Go.RowKit
set_option linter.unusedVariables false

theorem Try.elemS : Try.prog.underlying 53 = some (.slice (Try.prog.elem 53)) := by kernel_rfl
theorem Try.sizeS (wx : World) : (sizeOf (Try.prog.elem 53)).run Try.prog wx = .ok 2 wx := by kernel_rfl

theorem run_frontS (ao : Option Addr) (n cap p : Nat) (hp : p ≤ cap) (ha : ao = none → cap = 0) (wx : World) : (Instr.slice 53 (.slice ao n cap) none (some (.int .i64 p)) none).run Try.prog wx = .ok (.slice ao p cap) wx := by
  rw [run_slice_h wx 53 ao n cap Try.elemS .i64 _ (by omega) (by omega), Try.sizeS]
  simp only [Result.andThen, sliced]
  cases ao with
  | none =>
    obtain rfl := ha rfl
    obtain rfl : p = 0 := by omega
    simp
  | some ad => simp [Addr.add]

theorem RowG.frontS {w : World} {ao : Option Addr} {n cap : Nat} {l : List Sm.S} (h : RowS w (.slice ao n cap) l) (p : Nat) (hp : p ≤ l.length) : RowS w (.slice ao p cap) (l.take p) := by
  have hl : (l.take p).length = p := by rw [List.length_take]; omega
  rcases h with ⟨hv, e⟩ | ⟨ad', cap', hv, h1, h2, hc⟩
  · subst e
    simp at hv hp
    obtain ⟨rfl, rfl, rfl⟩ := hv
    subst hp
    exact .inl ⟨rfl, rfl⟩
  · simp at hv
    obtain ⟨rfl, rfl, rfl⟩ := hv
    refine .inr ⟨ad', cap, by rw [hl], by omega, h2, fun j u hj => hc j u ?_⟩
    rw [gcells_take stc_len, List.getElem?_take] at hj
    split at hj
    · exact hj
    · simp at hj

theorem rowS_shape {w : World} {v : Value} {l : List Sm.S} (h : RowS w v l) : ∃ ao cap, v = .slice ao l.length cap ∧ l.length ≤ cap ∧ cap ≤ maxLen ∧ (ao = none → cap = 0) := by
  rcases h with ⟨hv, e⟩ | ⟨ad, cap, hv, h1, h2, _⟩
  · subst e; exact ⟨none, 0, hv, by simp, by simp, fun _ => rfl⟩
  · exact ⟨some ad, cap, hv, h1, h2, fun h => nomatch h⟩

end Go.Proofs.Ytimmohpnlieefaa

/- The contracts of starts' checkPlace, At, Trimmed, fork, Fork, and of the copy that slices.Clone makes of starts. -/
namespace Go.Proofs.Ytimmohpnlieefaa
open Go.RowKit
set_option linter.unusedVariables false

theorem Try.info103 : (Try.prog.info? 103).map (fun i => (i.zero, i.size, i.bytes)) = some (some (.agg #[.int .i64 0, .int .i64 0]), 2, 16) := by kernel_rfl

theorem ownS_rebase {base base' : Nat} {w : World} {v : Value} {l : List Sm.S} (h : OwnS base w v l) (hb : base' ≤ base) : OwnS base' w v l := by
  refine ⟨h.1, ?_⟩
  rcases h.2 with h | ⟨g, cap, cur, hv, h1, r⟩
  · exact .inl h
  · exact .inr ⟨g, cap, cur, hv, by omega, r⟩

theorem ownS_below {base : Nat} {w w' : World} {v : Value} {l : List Sm.S} (h : OwnS base w v l) (hb : Below w.heap.size w w') : OwnS base w' v l := h.agree fun b hb' => hb.block b (h.lt b hb').2

/-- 'append(out, xs...)' of starts. -/
theorem wpList_append_sts {w : World} {ops : Array Oper} {rest : List Oper} {o : Oper} {a : Act} {Q : Exit → Act → World → Prop} (hgd : o.guard = none) (s x : Operand)
    (ho : o.op = .call { callee := .builtin .append, args := #[s, x], argTypes := #[53, 53] })
    (base : Nat) (v : Value) (l : List Sm.S) (hs : a.eval s = v) (hown : OwnS base w v l) (vx : Value) (m : List Sm.S) (hx : a.eval x = vx) (his : RowS w vx m)
    (hlen : (l.length + m.length) * 16 ≤ 140737488355328) (hbase : base ≤ w.heap.size)
    (h : ∀ v' w', OwnS base w' v' (l ++ m) → Below base w w' → w.grownBy w' v.ownBlock → wpList Try.prog ops Q rest (a.put o.dst v') w') : wpList Try.prog ops Q (o :: rest) a w :=
  wpList_append_rows stc 2 16 stc_len (by decide) (by decide) (.agg #[.int .i64 0, .int .i64 0]) rfl hgd s x 53 ho 103 base Try.underlying53 Try.info103 v l hs hown vx m hx his (stc_one m) hlen hbase
    fun v' w' h1 h2 => h v' w' h1 ((Below.refl _ _).grown h2 hbase fun k hk => (OwnG.lt hown k hk).1) h2

theorem sts_step (w : World) (cs : Array Value) (n : Nat) (l : List Sm.S) (hn : l.length = n) (h : cs.toList = gcells stc l) (hm : n ≤ maxLen) :
    ∃ W, w.alloc (.cells cs 103) = W ∧ W.heap.size = w.heap.size + 1 ∧ Below w.heap.size w W ∧ OwnS w.heap.size W (.slice (some ⟨w.heap.size, 0, none⟩) n n) l := rows_step stc 2 stc_len 103 w cs n l hn h hm

theorem Try.eqnilS (w : World) (a : Option Addr) (n c : Nat) : (binOp .eql 53 (.slice a n c) (.slice none 0 0)).run Try.prog w = .ok (.bool a.isNone) w := Lib.run_eql_slice_nil w 53 103 a n c 0 0 Try.underlying53

theorem atE_zero {l : List Sm.S} {en n : Int} (h : atE l en n = 0) : Sm.Ok l en ∧ 0 ≤ n ∧ n ≤ en := by
  by_cases h0 : Sm.chk l en = 0
  · by_cases hn : n < 0 ∨ en < n
    · rw [(atE_two h0 hn).1] at h
      simp at h
    · exact ⟨Sm.chk_zero.1 h0, by omega, by omega⟩
  · rw [(atE_five h0).2.1] at h
    simp at h

/-- What Trimmed comes to. -/
def trm (l : List Sm.S) (en n : Int) : List Sm.S := if atE l en n = 0 then Sm.beg n l else []

end Go.Proofs.Ytimmohpnlieefaa

/- The contracts of the laws' copies of starts: SameStarts, CopyStarts, LentStarts, KeptStarts; of the chapter's lists of starts ('of'). -/
namespace Go.Proofs.Ytimmohpnlieefaa
open Go.RowKit
set_option linter.unusedVariables false

set_option maxHeartbeats 1000000 in
theorem sameS_quiet (va vb : Value) (xs ys : List Sm.S) (w : World) (ha : RowS w va xs) (hb : RowS w vb ys) (hl : xs.length ≤ 140737488355328) (hl' : ys.length ≤ 140737488355328) :
    Calls Try.prog 37 #[va, vb] w fun e w' => e = .returned (.bool (decide (xs = ys))) ∧ ∃ m, w' = w.drewN m := by
  obtain ⟨ans, hans⟩ : ∃ r, decide (xs = ys) = r := ⟨_, rfl⟩
  rw [hans]
  have HA := hide hans
  clear hans
  by_cases hne : xs.length = ys.length
  · by_cases hz : 0 < xs.length
    · obtain ⟨b1, o1, c1, rfl, _, _, hB1, hc1⟩ := rowS_full ha hz
      obtain ⟨b2, o2, c2, rfl, _, _, hB2, hc2⟩ := rowS_full hb (by omega)
      have ht : ((xs.length : Int) != (ys.length : Int)) = false := by simp; omega
      have HL := hide hne
      have HC1 := hide hc1
      have HC2 := hide hc2
      clear hne ha hb hc1 hc2
      generalize hn : xs.length = n at *
      generalize hm : ys.length = m at *
      have HN := hide hn
      have HM := hide hm
      clear hn hm
      go_enter Try.func37, Try.ntmps37
      go_wp2
      go_loopw [5] (fun i wr => ∃ (k : Nat), k ≤ n ∧ i = .int .i64 k ∧ Hid (xs.take k = ys.take k) ∧ ∃ m, wr = w.drewN m) (fun i _ => n - (intOf i).toNat)
      case atStart => exact ⟨0, by omega, rfl, hide rfl, 0, rfl⟩
      case round =>
        obtain ⟨k, hk, rfl, HT, mm, rfl⟩ := hrel
        by_cases hlt : k < n
        · obtain ⟨o, ho⟩ := at_of (l := xs) (k := k) (by have := HN.out; omega)
          obtain ⟨q, hq⟩ := at_of (l := ys) (k := k) (by have := HM.out; have := HL.out; omega)
          obtain ⟨d0, d1⟩ := HC1.out k o ho
          obtain ⟨e0, e1⟩ := HC2.out k q hq
          have hlt' : (k : Int) < n := by omega
          have hlt2 : (k : Int) < m := by have := HL.out; omega
          have HO := hide ho
          have HQ := hide hq
          clear ho hq
          by_cases h1 : o.1 = q.1
          · have n1 : (o.1 != q.1) = false := by simpa using h1
            by_cases h2 : o.2 = q.2
            · have n2 : (o.2 != q.2) = false := by simpa using h2
              have HT2 : Hid (xs.take (k + 1) = ys.take (k + 1)) := hide (by
                rw [List.take_add_one, List.take_add_one, HT.out, HO.out, HQ.out, Prod.ext h1 h2])
              clear h1 h2
              go_wp2
              go_big_quiet (fail)
              go_wp2
              go_roundw
              case rel => exact ⟨k + 1, by omega, by go_num, HT2, _, rfl⟩
              case measure => simp [intOf]; omega
            · have n2 : (o.2 != q.2) = true := by simpa using h2
              have hfo := HA.out
              rw [decide_eq_false fun e => by
                have h3 := HO.out
                rw [e, HQ.out] at h3
                exact h2 (by rw [Option.some.inj h3])] at hfo
              subst hfo
              clear h1 h2 HA
              go_wp2
              go_big_quiet (fail)
              go_wp2
              go_ret
              exact ⟨rfl, _, by first | rfl | exact World.drewN_drewN _ _ _⟩
          · have n1 : (o.1 != q.1) = true := by simpa using h1
            have hfo := HA.out
            rw [decide_eq_false fun e => by
              have h3 := HO.out
              rw [e, HQ.out] at h3
              exact h1 (by rw [Option.some.inj h3])] at hfo
            subst hfo
            clear h1 HA
            go_wp2
            go_big_quiet (fail)
            go_wp2
            go_ret
            exact ⟨rfl, _, by first | rfl | exact World.drewN_drewN _ _ _⟩
        · have hlt' : ¬ (k : Int) < n := by omega
          have hfo := HA.out
          rw [decide_eq_true (by
            have h1 := HT.out
            rw [List.take_of_length_le (by have := HN.out; omega), List.take_of_length_le (by have := HN.out; have := HM.out; have := HL.out; omega)] at h1
            exact h1)] at hfo
          subst hfo
          clear HA
          go_wp2
          go_ret
          exact ⟨rfl, mm, rfl⟩
    · have hx : xs = [] := List.eq_nil_of_length_eq_zero (by omega)
      have hy : ys = [] := List.eq_nil_of_length_eq_zero (by omega)
      subst hx hy
      obtain ⟨a1, c1, rfl, _, _⟩ := ha.shape
      obtain ⟨a2, c2, rfl, _, _⟩ := hb.shape
      have hfo := HA.out
      simp at hfo
      subst hfo
      simp only [List.length_nil]
      clear hl hl' hne hz ha hb HA
      go_enter Try.func37, Try.ntmps37
      go_wp2
      refine wp_loop_rounds 1 ?_
      rw [rounds_succ]
      go_wp2
      go_ret
      exact ⟨rfl, 0, rfl⟩
  · obtain ⟨a1, c1, rfl, _, _⟩ := ha.shape
    obtain ⟨a2, c2, rfl, _, _⟩ := hb.shape
    have ht : ((xs.length : Int) != (ys.length : Int)) = true := by simp; omega
    have hfo := HA.out
    rw [decide_eq_false fun h => hne (by rw [h])] at hfo
    subst hfo
    clear hne HA
    go_enter Try.func37, Try.ntmps37
    go_wp2
    go_ret
    exact ⟨rfl, 0, rfl⟩

theorem sameS_yes (va vb : Value) (xs : List Sm.S) (w : World) (ha : RowS w va xs) (hb : RowS w vb xs) (hl : xs.length ≤ 140737488355328) :
    Calls Try.prog 37 #[va, vb] w fun e w' => e = .returned (.bool true) ∧ ∃ m, w' = w.drewN m := by
  have := sameS_quiet va vb xs xs w ha hb hl hl
  rw [decide_eq_true rfl] at this
  exact this

/-- What stands behind starts that are lent. -/
def beS : List Sm.S := [(-5, 0), (-5, 1), (-5, 2)]

end Go.Proofs.Ytimmohpnlieefaa
